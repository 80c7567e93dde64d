/- DERIVED. What the reference's Follow returns for a value that is right and parts. Condition: at most 2^40 values; the library's variable ErrSyntax holds an error. -/
import Derived.Test.YtohkdckllmmfhaaGreatDoorFollow
namespace Go.Proofs.YtohkdckllmmfhaaGreatDoor
open Go.RowKit
set_option linter.unusedVariables false
set_option maxRecDepth 100000 in
set_option maxHeartbeats 3200000 in
theorem followR_any (s : Sv) (l : List ByteArray) (A : Option Addr) (n c : Nat) (w : World) (B : Nat) (hB : B ≤ w.heap.size) (hs : s.okB w B) (hf : Fine s.row 1099511627776) (hl : KeysAt w w.heap.size l A n) (hn : n ≤ 1099511627776) (hall : l.all partB = true) (hps : ∀ x, x ∈ l → x.size ≤ 400) (hv : ErrV w) :
    Calls Tryz.prog 23 #[s.val, .slice A n c] w (SetPostB (followV s.row l) B w) := by
  obtain ⟨res, hres⟩ : ∃ res, followV s.row l = res := ⟨_, rfl⟩
  rw [hres]
  have HRES := Lib.hid hres
  clear hres
  have HF := Lib.hid hf
  have HL := Lib.hid hl
  have HPS := Lib.hid hps
  have HALL := Lib.hid (fun x hx => List.all_eq_true.1 hall x hx)
  have HV := Lib.hid hv
  have HT0 := Lib.hid (svTwo1 (Below.refl _ ((w.alloc s.box).alloc Sv.zero.box)))
  have HOK0 := Lib.hid (hs.below ((svTwo w s Sv.zero).mono hB))
  clear hs hf hl hps hall hv
  unfold Sv.val
  go_enter Tryz.func23, Tryz.ntmps23
  go_wp2_with fail
  go_loopw [7, 8, 11] (fun _ _ i wr => ∃ (k : Nat) (a : Sv), k ≤ n ∧ i = .int .i64 k ∧ a.row = followV s.row (l.take k) ∧ a.okB wr B ∧ wr.rangeAt w.heap.size 0 a.cs.toList ∧ wr.there w.heap.size 0 6 ∧ wr.there (w.heap.size + 1) 0 6 ∧ w.heap.size + 2 ≤ wr.heap.size ∧ Below w.heap.size w wr) (fun _ _ i _ => n - (intOf i).toNat)
  case atStart => exact ⟨0, s, Nat.zero_le _, rfl, rfl, HOK0.out, svRange HT0.out.2.2.1, svThere HT0.out.2.2.1, svThere HT0.out.2.2.2, HT0.out.2.1, HT0.out.1⟩
  case round =>
    obtain ⟨k, a, hk, rfl, hrow, hok, hra, hth, htr, hsz, hbw⟩ := hrel
    have hfa : Fine a.row 1099511627776 := by rw [hrow]; exact HF.out.follow _
    obtain ⟨hg, hky, hn2⟩ := hfa.good hok (Nat.le_refl _)
    obtain ⟨y0, y1, y2, y3, y4, y5⟩ := range6 hra
    have HROW := Lib.hid hrow
    have HTH := Lib.hid hth
    have HTR := Lib.hid htr
    have HBW := Lib.hid hbw
    have HRA := Lib.hid hra
    have HOK := Lib.hid hok
    have HN := Lib.hid hok.at_.len_eq
    have hnc := hok.nc1
    have hcm := hok.cm1
    unfold maxLen at hcm
    by_cases hlt : k < n
    · have hkl : k < l.length := by rw [← HL.out.1]; exact hlt
      obtain ⟨x, hx⟩ : ∃ x, l[k]? = some x := ⟨_, List.getElem?_eq_getElem hkl⟩
      obtain ⟨b, o, rfl, hbl, hcell⟩ := HL.out.2.2 (by omega)
      have x0 := (hbw.cell (p := ⟨b, o + k, none⟩) hbl).trans (hcell k x hx)
      have hxp := HALL.out x (List.mem_of_getElem? hx)
      have HC := Lib.hid (fun wX (hX : Below wr.heap.size wr wX) => step_any a x wX ((hok.more (by omega : B ≤ wr.heap.size) |>.below hX).more hX.size) hg hky hn2 hxp (HPS.out x (List.mem_of_getElem? hx)) (HV.out.below (HBW.out.trans (hX.mono (by omega)))))
      have hsn := follow_snoc (v := s.row) hx
      rw [← hrow] at hsn
      have hlt2 := fun h => step_lt (p := x) hg hxp h
      have hlb := hok.at_
      clear hcell hx hkl hrow hth htr hra hok hfa hg hky hn2 hxp
      obtain ⟨ak, abo, ai, at_, aA1, an1, ac1, aA2, an2, ac2, ait, aks⟩ := a
      dsimp only at hlt2 hlb hnc hcm HN HC
      have hsn' : followV s.row (l.take (k + 1)) = if 0 ≤ stepI ak ait aks x then ait.one (stepI ak ait aks x).toNat else .nil := hsn
      clear hsn
      generalize stepI ak ait aks x = j at HC hsn' hlt2
      unfold Sv.val at HC
      dsimp only at HC
      dsimp only at y0 y1 y2 y3 y4 y5
      by_cases hj : 0 ≤ j
      · have hjl := hlt2 hj
        rw [if_pos hj] at hsn'
        obtain ⟨m, rfl⟩ : ∃ m : Nat, j = m := ⟨j.toNat, by omega⟩
        simp only [Int.toNat_natCast] at hsn' hjl
        have hmn : m < an1 := by rw [HN.out]; exact hjl
        obtain ⟨bb, off, k2, bo2, i2, t2, B1, m1, d1, B2, m2, d2, it2, ks2, r2, hA, e1, e2, E⟩ := hlb.el m hmn
        rw [Vals.one_drop m ait e1] at hsn'
        subst hA
        have HE := Lib.hid (fun wX (hX : Below wr.heap.size wr wX) => E.below (hX.mono (by omega)))
        have HSN := Lib.hid hsn'
        have hbb := E.lt
        clear hsn' hlb hlt2 hjl e1 e2 E hbl
        go_wp2_with fail
        refine (HC.out _ (Below.refl _ _)).mono ?_
        rintro e w1 ⟨rfl, hb1⟩
        obtain ⟨-, x1, x2, x3, x4, x5, x6, hok2⟩ := HE.out w1 hb1
        have hra1 := range_below HRA.out hb1 (by omega)
        have hth1 := there_below HTH.out hb1 (by omega)
        have htr1 := there_below HTR.out hb1 (by omega)
        clear y0 y1 y2 y3 y4 y5
        obtain ⟨y0, y1, y2, y3, y4, y5⟩ := range6 hra1
        dsimp only at y0 y1 y2 y3 y4 y5
        obtain ⟨w3, hw3⟩ : ∃ w3, w1.setCells w.heap.size 0 (#[Value.int .i64 k2, .bool bo2, .int .i64 i2, .string t2, .slice B1 m1 d1, .slice B2 m2 d2] : Array Value).toList = w3 := ⟨_, rfl⟩
        have hr3 : w3.rangeAt w.heap.size 0 (#[Value.int .i64 k2, .bool bo2, .int .i64 i2, .string t2, .slice B1 m1 d1, .slice B2 m2 d2] : Array Value).toList := by
          rw [← hw3]; exact World.rangeAt_setCells_same w1 _ _ _ hth1
        have hth3 : w3.there w.heap.size 0 6 := by rw [← hw3]; exact World.there_setCells hth1 _ _ _
        have htr3 : w3.there (w.heap.size + 1) 0 6 := by rw [← hw3]; exact World.there_setCells htr1 _ _ _
        have hs3 : w3.heap.size = w1.heap.size := by rw [← hw3]; exact size_setCells' _ _ _ _
        have hb3 : Below w.heap.size w w3 := by rw [← hw3]; exact below_setCells' (Nat.le_refl _) _ _ (HBW.out.trans (hb1.mono (by omega)))
        have hok3 : VOk w3 B k2 i2 t2 B1 m1 d1 B2 m2 d2 it2 ks2 := by
          refine hok2.keep (fun q hq => ?_) (Nat.le_refl _)
          rw [← hw3]
          exact World.cell?_setCells_out _ _ _ _ _ (fun hb _ => by omega)
        have HREL := Lib.hid (And.intro hr3 (And.intro hth3 (And.intro htr3 (And.intro (show w.heap.size + 2 ≤ w3.heap.size by have := hb1.size; omega) (And.intro hb3 hok3)))))
        have HT1 := Lib.hid hth1
        have HW3 := Lib.hid hw3
        clear hw3 hr3 hth3 htr3 hs3 hb3 hok3 hth1 htr1 hra1 hok2
        have HM := Lib.hid hmn
        go_upto_region 7 with (fail)
        go_wp2_with (refine wpList_store_mid rfl 25 (.tmp 2) (.tmp 25) rfl w.heap.size 0 #[Value.int .i64 k2, .bool bo2, .int .i64 i2, .string t2, .slice B1 m1 d1, .slice B2 m2 d2] rfl rfl HT1.out sv_size (by simp [Value.oneCell']) ?_; rw [HW3.out])
        go_roundw
        case rel =>
          obtain ⟨g1, g2, g3, g4, g5, g6⟩ := HREL.out
          exact ⟨k + 1, ⟨k2, bo2, i2, t2, B1, m1, d1, B2, m2, d2, it2, ks2⟩, by omega, by go_num, HSN.out.symm, g6, g1, g2, g3, g4, g5⟩
        case measure => simp [intOf]; omega
      · rw [if_neg hj] at hsn'
        have hjl : j < 0 := by omega
        have HSN := Lib.hid (show res = .nil by rw [← HRES.out]; exact follow_none hsn')
        clear hsn' hlb hlt2 hj hbl
        go_wp2_with fail
        refine (HC.out _ (Below.refl _ _)).mono ?_
        rintro e w1 ⟨rfl, hb1⟩
        have htr1 := there_below HTR.out hb1 (by omega)
        obtain ⟨w3, hw3⟩ : ∃ w3, w1.setCells (w.heap.size + 1) 0 (#[Value.int .i64 0, .bool false, .int .i64 0, .string ⟨#[]⟩, .slice none 0 0, .slice none 0 0] : Array Value).toList = w3 := ⟨_, rfl⟩
        have hr3 : w3.rangeAt (w.heap.size + 1) 0 Sv.zero.cs.toList := by
          rw [← hw3]; exact World.rangeAt_setCells_same w1 _ _ _ htr1
        have hb3 : Below w.heap.size w w3 := by rw [← hw3]; exact below_setCells' (by omega) _ _ (HBW.out.trans (hb1.mono (by omega)))
        have HW3 := Lib.hid hw3
        have HR := Lib.hid hr3
        have HB := Lib.hid hb3
        have HT1 := Lib.hid htr1
        clear hw3 hr3 hb3 htr1 y0 y1 y2 y3 y4 y5
        go_upto_region 6 with (fail)
        go_wp2_with (refine wpList_store_mid rfl 25 (.tmp 4) (.tmp 20) rfl (w.heap.size + 1) 0 #[.int .i64 0, .bool false, .int .i64 0, .string ⟨#[]⟩, .slice none 0 0, .slice none 0 0] rfl rfl HT1.out sv_size (by simp [Value.oneCell']) ?_; rw [HW3.out])
        rw [HSN.out]
        refine bodyPost_ret (v := .tuple #[Sv.zero.val, .bool false]) ?_ rfl ⟨Sv.zero, rfl, rfl, Sv.zero_ok _ _, HB.out⟩
        exact svRes rfl _ _ (w.heap.size + 1) Sv.zero _ rfl rfl HR.out
    · obtain rfl : k = n := by omega
      have hre : a.row = res := by rw [hrow, ← HRES.out, List.take_of_length_le (by rw [HL.out.1]; exact Nat.le_refl _)]
      have HRE := Lib.hid hre
      clear hrow hth htr hra hok hfa hg hky hn2 hre
      obtain ⟨ak, abo, ai, at_, aA1, an1, ac1, aA2, an2, ac2, ait, aks⟩ := a
      dsimp only at y0 y1 y2 y3 y4 y5
      obtain ⟨w3, hw3⟩ : ∃ w3, wr.setCells (w.heap.size + 1) 0 (#[Value.int .i64 ak, .bool abo, .int .i64 ai, .string at_, .slice aA1 an1 ac1, .slice aA2 an2 ac2] : Array Value).toList = w3 := ⟨_, rfl⟩
      have hr3 : w3.rangeAt (w.heap.size + 1) 0 (Sv.mk ak abo ai at_ aA1 an1 ac1 aA2 an2 ac2 ait aks).cs.toList := by
        rw [← hw3]; exact World.rangeAt_setCells_same wr _ _ _ HTR.out
      have hb3 : Below w.heap.size w w3 := by rw [← hw3]; exact below_setCells' (by omega) _ _ HBW.out
      have hok3 : VOk w3 B ak ai at_ aA1 an1 ac1 aA2 an2 ac2 ait aks := by
        refine VOk.keep (fun q hq => ?_) (Nat.le_refl _) HOK.out
        rw [← hw3]
        exact World.cell?_setCells_out _ _ _ _ _ (fun hb _ => by omega)
      have HW3 := Lib.hid hw3
      have HR := Lib.hid hr3
      have HB := Lib.hid hb3
      have HK3 := Lib.hid hok3
      clear hw3 hr3 hb3 hok3
      go_upto_region 9 with (fail)
      go_wp2_with (refine wpList_store_mid rfl 25 (.tmp 4) (.tmp 27) rfl (w.heap.size + 1) 0 #[Value.int .i64 ak, .bool abo, .int .i64 ai, .string at_, .slice aA1 an1 ac1, .slice aA2 an2 ac2] rfl rfl HTR.out sv_size (by simp [Value.oneCell']) ?_; rw [HW3.out])
      rw [← HRE.out]
      refine bodyPost_ret (v := .tuple #[(Sv.mk ak abo ai at_ aA1 an1 ac1 aA2 an2 ac2 ait aks).val, .bool true]) ?_ rfl ⟨Sv.mk ak abo ai at_ aA1 an1 ac1 aA2 an2 ac2 ait aks, rfl, rfl, HK3.out, HB.out⟩
      exact svRes rfl _ _ (w.heap.size + 1) (Sv.mk ak abo ai at_ aA1 an1 ac1 aA2 an2 ac2 ait aks) _ rfl rfl HR.out
end Go.Proofs.YtohkdckllmmfhaaGreatDoor
