/- DERIVED. asset.Bundle of any files. Conditions: a slice of files that a slice can hold; the library's variable MaxLen holds a number. -/
import Derived.Test.YtjghindfnjfdcaaGreatDoorBunH
namespace Go.Proofs.YtjghindfnjfdcaaGreatDoor
open Go.RowKit
set_option linter.unusedVariables false
set_option linter.unusedSimpArgs false
set_option maxRecDepth 100000 in
set_option maxHeartbeats 12800000 in
theorem bundle_any (A : Option Addr) (n c : Nat) (L : List (ByteArray × ByteArray)) (w : World) (hl : L.length = n) (hn : n ≤ 4611686018427387904) (hF : FilesAt w w.heap.size A L) (hm : MaxT w) :
    Calls Tryz.prog 4 #[.slice A n c] w (BunPost L w) := by
  obtain ⟨i0, hi, hz0, hz1, hz2⟩ := info_parts strInfoB
  obtain ⟨j0, hj, hy0, hy1, hy2⟩ := info_parts intInfoB
  have HL := Lib.hid hl
  have HF := Lib.hid hF
  have HM := Lib.hid hm
  have H1 := Lib.hid (fun wX (hX : Below w.heap.size w wX) => anyLarge_any A n c L wX hl hn ((hF.below hX (Nat.le_refl _)).more hX.size))
  have hq0 : Zb w.heap.size (w.alloc (.cells #[.string ⟨#[]⟩, .slice none 0 0, .slice none 0 0] 26)) := heap_alloc_new w _
  have HB0 := Lib.hid ((Below.refl w.heap.size w).alloc (Nat.le_refl _) (.cells #[.string ⟨#[]⟩, .slice none 0 0, .slice none 0 0] 26))
  clear hl hF hm
  by_cases h40 : 40 < n
  · have h40i : (40 : Int) < (n : Int) := by omega
    have HE := Lib.hid (show boE L = 4 by unfold boE; rw [if_pos (.inl (by rw [HL.out]; exact h40))])
    have HQ0 := Lib.hid hq0
    obtain ⟨x0, x1, x2, x3, x4, x5⟩ := hq0.rows.cells
    clear hq0
    go_enter Tryz.func4, Tryz.ntmps4
    go_wp2_with fail
    obtain ⟨c0, c1, c2⟩ := zb_cells (zb_set HQ0.out (.string ⟨#[]⟩) (.slice none 0 0) (.slice none 0 0))
    obtain ⟨k0, k1, k2⟩ := zb_cells HQ0.out
    exact bodyPost_ret (v := .tuple #[.agg #[.string ⟨#[]⟩, .slice none 0 0, .slice none 0 0], .int .i64 4]) (by simp [results, Tryz.results4, go_sem, c0, c1, c2, k0, k1, k2]; try rfl) rfl (bunPost_bad HE.out (by decide) (by first | exact HB0.out | exact below_set3 HB0.out (Nat.le_refl _) _ _ _))
  · have h40i : ¬ (40 : Int) < (n : Int) := by omega
    cases hA : anyL L with
    | true =>
      rw [hA] at H1
      have HE := Lib.hid (show boE L = 4 by unfold boE; rw [if_pos (.inr hA)])
      clear hA
      go_enter Tryz.func4, Tryz.ntmps4
      go_wp2_with fail
      refine (H1.out _ HB0.out).mono ?_
      rintro e w1 ⟨rfl, hb1⟩
      have hq1 : Zb w.heap.size w1 := hq0.below hb1 (by simp)
      have HB1 := Lib.hid (HB0.out.trans (hb1.mono HB0.out.size))
      obtain ⟨x0, x1, x2, x3, x4, x5⟩ := hq1.rows.cells
      have HQ1 := Lib.hid hq1
      clear hb1 hq1 hq0
      go_wp2_with fail
      obtain ⟨c0, c1, c2⟩ := zb_cells (zb_set HQ1.out (.string ⟨#[]⟩) (.slice none 0 0) (.slice none 0 0))
      exact bodyPost_ret (v := .tuple #[.agg #[.string ⟨#[]⟩, .slice none 0 0, .slice none 0 0], .int .i64 4]) (by simp [results, Tryz.results4, go_sem, c0, c1, c2]; try rfl) rfl (bunPost_bad HE.out (by decide) (below_set3 HB1.out (Nat.le_refl _) _ _ _))
    | false =>
      rw [hA] at H1
      have HA := Lib.hid hA
      have HCL := Lib.hid (bcat_len hA)
      have HE := Lib.hid (show boE L = if pathsE (bpaths L) ≠ 0 then pathsE (bpaths L) else if 200000 < (bcat L).length then 4 else 0 by unfold boE; rw [if_neg (fun h => h.elim (fun h => by rw [HL.out] at h; omega) (fun h => by rw [hA] at h; cases h))])
      clear hA
      go_enter Tryz.func4, Tryz.ntmps4
      go_wp2_with fail
      refine (H1.out _ HB0.out).mono ?_
      rintro e w1 ⟨rfl, hb1⟩
      have hq1 : Zb w.heap.size w1 := hq0.below hb1 (by simp)
      have hw1 : w.heap.size < w1.heap.size := (Array.getElem?_eq_some_iff.1 hq1).1
      have HB1 := Lib.hid (HB0.out.trans (hb1.mono HB0.out.size))
      have HQ1 := Lib.hid hq1
      clear hb1 hq1 hq0
      obtain ⟨m, hmm⟩ : ∃ m, w1.heap.size = m := ⟨_, rfl⟩
      have hz4 : RowsAt m m ⟨#[]⟩ (.slice none 0 0) [] (.slice none 0 0) [] (w1.alloc (.cells #[.string ⟨#[]⟩, .slice none 0 0, .slice none 0 0] 26)) := by rw [← hmm]; exact Zb.rows (heap_alloc_new w1 _)
      have hbd0 : BdF m (m + 1) [] ((w1.alloc (.cells #[.string ⟨#[]⟩, .slice none 0 0, .slice none 0 0] 26)).alloc (.cells #[.pointer none, .slice none 0 0] 35)) := by
        have h := Lib.fresh_isBuilder 35 5 (w1.alloc (.cells #[.string ⟨#[]⟩, .slice none 0 0, .slice none 0 0] 26))
        have hs : (w1.alloc (.cells #[.string ⟨#[]⟩, .slice none 0 0, .slice none 0 0] 26)).heap.size = m + 1 := by rw [← hmm]; simp
        rw [hs] at h
        have h2 := Lib.IsBuilderF.of h
        exact bd_lower h2 (by omega)
      have hbl0 : Below m w1 ((w1.alloc (.cells #[.string ⟨#[]⟩, .slice none 0 0, .slice none 0 0] 26)).alloc (.cells #[.pointer none, .slice none 0 0] 35)) := ((Below.refl m w1).alloc (by omega) _).alloc (by simp; omega) _
      have HZ4 := Lib.hid (hz4.alloc (.cells #[.pointer none, .slice none 0 0] 35))
      have HBD0 := Lib.hid hbd0
      have HBL0 := Lib.hid hbl0
      have HMM := Lib.hid hmm
      clear hz4 hbd0 hbl0 hmm
      go_wp2_with fail
      have hmm := HMM.out
      subst hmm
      go_loopw [19] (fun i wr => ∃ (k : Nat) (Pv Ev : Value), k ≤ n ∧ i = .int .i64 k ∧ RowsAt w1.heap.size w1.heap.size ⟨#[]⟩ Pv (bpaths (L.take k)) Ev (bends L k) wr ∧ BdF w1.heap.size (w1.heap.size + 1) (bcat (L.take k)) wr ∧ Below w1.heap.size w1 wr) (fun i _ => n - (intOf i).toNat)
      case atStart => exact ⟨0, _, _, Nat.zero_le _, rfl, HZ4.out, HBD0.out, HBL0.out⟩
      case round =>
        obtain ⟨k, Pv, Ev, hk, rfl, hrow, hbd, hbw⟩ := hrel
        have HR := Lib.hid hrow
        have HBD := Lib.hid hbd
        have HBW := Lib.hid hbw
        have hwz := hbw.size
        clear hrow hbd hbw
        by_cases hlt : k < n
        · obtain ⟨p, hp⟩ : ∃ p, L[k]? = some p := ⟨_, List.getElem?_eq_getElem (by rw [HL.out]; exact hlt)⟩
          have h20 := anyL_at HA.out hp
          have HSN := Lib.hid (take_next hp)
          have hk40 : k < 40 := by omega
          have hroom := HCL.out k
          obtain ⟨p1, p2⟩ := p
          obtain ⟨b, off, rfl, hb, g0, g1⟩ := (HF.out.below (HB1.out.trans (HBW.out.mono (Nat.le_of_lt hw1))) (Nat.le_refl _)).at hp
          dsimp only at g0 g1 h20
          have HPL := Lib.hid (show (bpaths (L.take k)).length ≤ 40 by unfold bpaths; rw [List.length_map, List.length_take]; omega)
          have HNX := Lib.hid (show bcat (L.take (k + 1)) = bcat (L.take k) ++ bdl p2 by rw [HSN.out, bcat_snoc])
          obtain ⟨W1, hW1⟩ : ∃ W1, wr.alloc (.cells #[.string p1, .string p2] 37) = W1 := ⟨_, rfl⟩
          have hbdA : BdF w1.heap.size (w1.heap.size + 1) (bcat (L.take k)) W1 := by rw [← hW1]; exact bdF_alloc HBD.out _
          have hfb : Fb wr.heap.size p1 p2 W1 := by rw [← hW1]; exact heap_alloc_new _ _
          have hrA : RowsAt w1.heap.size w1.heap.size ⟨#[]⟩ Pv (bpaths (L.take k)) Ev (bends L k) W1 := by rw [← hW1]; exact HR.out.alloc _
          have hbwA : Below w1.heap.size w1 W1 := by rw [← hW1]; exact HBW.out.alloc hwz _
          have HWS := Lib.hid (writeStringO_any w1.heap.size (w1.heap.size + 1) (Lib.byteCells (bcat (L.take k))) p2 W1 hbdA (by rw [Lib.byteCells_length]; omega) hbwA.size)
          obtain ⟨cb, hcb⟩ := bdF_blk hbdA
          have HCB := Lib.hid hcb
          have HFB := Lib.hid hfb
          have HRA := Lib.hid hrA
          have HBWA := Lib.hid hbwA
          have HP := Lib.hid hp
          have HRM := Lib.hid hroom
          obtain ⟨u0, u1⟩ := hfb.cells
          clear hcb hfb hrA hbwA hbdA hp hroom
          go_wp2_with fail
          refine HWS.out.mono ?_
          rintro e w2 ⟨rfl, hbd2, hbel2, hoth2⟩
          have HR2 := Lib.hid (HRA.out.others hoth2 HCB.out)
          have hf2 : Fb wr.heap.size p1 p2 w2 := (others_keep hoth2 HCB.out (by decide) (by decide) _ _ _ HFB.out).trans HFB.out
          have HBW2 := Lib.hid (HBWA.out.trans hbel2)
          have hbd2' : BdF w1.heap.size (w1.heap.size + 1) (bcat (L.take k) ++ p2.data.toList) w2 := by
            show Lib.IsBuilderF _ _ _ _ (Lib.byteCells (_ ++ _)) _
            rw [Lib.byteCells_append]
            exact hbd2
          have HBD2 := Lib.hid hbd2'
          have HF2 := Lib.hid hf2
          clear hbd2 hbd2' hbel2 hoth2 u0 u1
          obtain ⟨f0, f1⟩ := hf2.cells
          clear hf2 hW1
          by_cases hemp : p2.toList = []
          · have HX := Lib.hid (show bdl p2 = p2.data.toList by unfold bdl sfx; rw [hemp]; simp)
            have HBDT := Lib.hid (show BdF w1.heap.size (w1.heap.size + 1) (bcat (L.take (k + 1))) w2 by rw [HNX.out, HX.out]; exact HBD2.out)
            have HRT := HR2
            have HBWT := HBW2
            obtain ⟨wX, hwX⟩ : ∃ wX, w2 = wX := ⟨_, rfl⟩
            subst hwX
            skip

            have hbdT := HBDT.out
            have hrT := HRT.out
            obtain ⟨y0, y1, y2, z0, z1, z2⟩ := hrT.cells
            have HSZ := Lib.hid (show w1.heap.size ≤ w2.heap.size from HBWT.out.size)
            clear hbdT hrT
            go_wp2_with (at_builtin; refine wpList_append_own _ rfl _ _ 23 rfl w1.heap.size 9 i0 (.string ⟨#[]⟩) 1 16 Tryz.underlying23 hi hz0 hz1 hz2 rfl (by decide) _ _ _ rfl (HRT.out.par.alloc _) ⟨w2.heap.size, 0, none⟩ 1 1 [.string p1] rfl rfl ?c1 ?c2 ?c3 ?c4 ?c5 ?_)
            try (case c1 => exact cell_one_bn _ _ _ _ (by simp))
            case c2 => first | rfl | (intro u hu; simp at hu; subst hu; rfl)
            case c3 => unfold maxLen; have := HPL.out; omega
            case c4 => have := HPL.out; omega
            case c5 => have := HSZ.out; simp; omega
            intro v3 w3 hown3 hgrow3 _
            obtain ⟨g3, cap3, rfl, _, _⟩ := hown3.form (Nat.succ_pos _)
            obtain ⟨hblk3, hr4⟩ := (HRT.out.alloc _).putPath (x := p1) hown3 hgrow3
            have hbd3 := bdF_set (j := 1) (.slice (some ⟨g3, 0, none⟩) ((bpaths (L.take k)).length + 1) cap3) (bdF_grown (bdF_alloc HBDT.out _) (HRT.out.par.alloc _) hgrow3 (by decide) (by decide)) hblk3
            have hbw3 := ((HBWT.out.alloc HSZ.out _).grown hgrow3 (by simp; have := HSZ.out; omega) (fun j hj => (HRT.out.par.lt j hj).1)).setCell (p := ⟨w1.heap.size, 1, none⟩) (Nat.le_refl _) (.slice (some ⟨g3, 0, none⟩) ((bpaths (L.take k)).length + 1) cap3)
            have hc3 : w3.cell? ⟨w1.heap.size, 1, none⟩ = some Pv := (zb_cells hblk3).2.1
            have hf3 : w3.frozen? ⟨w1.heap.size, 1, none⟩ = false := by unfold World.frozen?; simp only [hblk3]; rfl
            obtain ⟨W4, hW4⟩ : ∃ W4, w3.setCell ⟨w1.heap.size, 1, none⟩ (.slice (some ⟨g3, 0, none⟩) ((bpaths (L.take k)).length + 1) cap3) = W4 := ⟨_, rfl⟩
            rw [hW4] at hr4 hbd3 hbw3
            have HR4 := Lib.hid hr4
            have HBD4 := Lib.hid hbd3
            have HBW4 := Lib.hid hbw3
            have HLEN := Lib.hid (fun w2 (h : BdF w1.heap.size (w1.heap.size + 1) (bcat (L.take (k + 1))) w2) => Tryz.Builder_Len_f w1.heap.size (w1.heap.size + 1) (Lib.byteCells (bcat (L.take (k + 1)))) w2 h)
            have HZL := Lib.hid (Lib.byteCells_length (bcat (L.take (k + 1))))
            rw [HZL.out] at HLEN
            obtain ⟨zz, hzz⟩ : ∃ zz : Nat, (bcat (L.take (k + 1))).length = zz := ⟨_, rfl⟩
            have HZZ := Lib.hid hzz
            rw [hzz] at HLEN
            clear hzz
            have HSZ4 := Lib.hid (show w1.heap.size ≤ W4.heap.size from hbw3.size)
            obtain ⟨r0, r1, r2, s0, s1, s2⟩ := hr4.cells
            clear hblk3 hr4 hbd3 hbw3 hown3 hgrow3 y0 y1 y2 z0 z1 z2
            go_upto_region 12 with (fail)
            clear hc3 hf3
            have hca : (W4.alloc (.cells #[.int .i64 (zz : Int)] 3)).cell? ⟨w1.heap.size, 2, none⟩ = some Ev := (HR4.out.alloc (.cells #[.int .i64 (zz : Int)] 3)).cells.2.2.1
            go_region_law (first
              | (go_simp; go_at_call 11; with_reducible refine Calls.mono (HLEN.out _ (by first | exact HBD4.out | exact bd_keep HBD4.out (fun _ _ _ _ _ _ => rfl))) ?_; rintro e w6 ⟨rfl, rfl⟩)
              | (refine step_append_lies _ (by rfl) _ _ _ (by rfl) w1.heap.size 3 j0 _ 1 8 Tryz.underlying24 hj hy0 hy1 hy2 rfl (by omega) Ev (bends L k).length (ivs (bends L k)) (by rfl) (by first | exact HR4.out.en.alloc _ | exact own_keep (HR4.out.en.alloc (.cells #[.int .i64 (zz : Int)] 3)) (fun _ _ _ => rfl)) ⟨W4.heap.size, 0, none⟩ 1 1 [.int .i64 (zz : Int)] (by rfl) (by rfl) (by first | exact World.news_of_block (heap_alloc_new W4 _) | exact fun j u h => World.news_of_block (heap_alloc_new W4 (.cells #[.int .i64 (zz : Int)] 3)) j u h) (by simp [Value.oneCell']) (by omega) (by rw [bends_len]; unfold maxLen; omega) (by rw [bends_len]; omega) (by have := HSZ4.out; simp; omega) (W4.heap.size + 1) (by simp) ?_
                 intro gg cap2 w7 hown7 hgrow7 hat7 hlt7
                 have hpe := RowsAt.putEnd (x := (zz : Int)) (by first | exact HR4.out.alloc (.cells #[.int .i64 (zz : Int)] 3) | exact (HR4.out.alloc (.cells #[.int .i64 (zz : Int)] 3)).keep (fun _ _ _ _ _ _ => rfl)) hown7 hgrow7
                 have hc7 : w7.cell? ⟨w1.heap.size, 2, none⟩ = some Ev := (zb_cells hpe.1).2.2
                 have hf7 : w7.frozen? ⟨w1.heap.size, 2, none⟩ = false := by unfold World.frozen?; simp only [hpe.1]; rfl))
            all_goals (
              have HPE := Lib.hid hpe.2
              have HBD7 := Lib.hid (bdF_set (j := 2) (.slice (some ⟨gg, 0, none⟩) ((bends L k).length + 1) cap2) (bdF_grown (by first | exact bdF_alloc HBD4.out (.cells #[.int .i64 (zz : Int)] 3) | exact bd_keep (bdF_alloc HBD4.out (.cells #[.int .i64 (zz : Int)] 3)) (fun _ _ _ _ _ _ => rfl)) (by first | exact HR4.out.en.alloc (.cells #[.int .i64 (zz : Int)] 3) | exact own_keep (HR4.out.en.alloc (.cells #[.int .i64 (zz : Int)] 3)) (fun _ _ _ => rfl)) hgrow7 (by decide) (by decide)) hpe.1)
              have HBW7 := Lib.hid ((Below.grown (by first | exact HBW4.out.alloc HSZ4.out (.cells #[.int .i64 (zz : Int)] 3) | exact (HBW4.out.alloc HSZ4.out (.cells #[.int .i64 (zz : Int)] 3)).drew) hgrow7 (by simp; have := HSZ4.out; omega) (fun j hj => (HR4.out.en.lt j hj).1)).setCell (p := ⟨w1.heap.size, 2, none⟩) (Nat.le_refl _) (.slice (some ⟨gg, 0, none⟩) ((bends L k).length + 1) cap2))
              clear hpe hown7 hgrow7 hat7 hlt7 r0 r1 r2 s0 s1 s2 hca
              go_wp2_with fail
              go_roundw
              case rel =>
                refine ⟨k + 1, .slice (some ⟨g3, 0, none⟩) ((bpaths (L.take k)).length + 1) cap3, .slice (some ⟨gg, 0, none⟩) ((bends L k).length + 1) cap2, by omega, by go_num, ?_, HBD7.out, HBW7.out⟩
                have h := HPE.out
                have e1 : bpaths (L.take (k + 1)) = bpaths (L.take k) ++ [p1] := by rw [HSN.out]; unfold bpaths; rw [List.map_append]; rfl
                rw [e1, bends_succ, HZZ.out]
                exact h
              case measure => simp [intOf]; omega)
          · have hemp2 : (p2.toList == []) = false := by simpa using hemp
            have hsuf := fun wX => Tryz.strings_HasSuffix p2 ⟨#[10]⟩ wX (by omega)
            rw [show (⟨#[10]⟩ : ByteArray).data.toList = [10] from rfl] at hsuf
            cases hs : Lib.hasSuffix p2.data.toList [10] with
            | true =>
              rw [hs] at hsuf
              have HSF := Lib.hid hsuf
              have HX := Lib.hid (show bdl p2 = p2.data.toList by unfold bdl sfx; rw [hs]; simp)
              have HBDT := Lib.hid (show BdF w1.heap.size (w1.heap.size + 1) (bcat (L.take (k + 1))) w2 by rw [HNX.out, HX.out]; exact HBD2.out)
              have HRT := HR2
              have HBWT := HBW2
              clear hs hsuf
              go_wp2_with fail
              refine (HSF.out _).mono ?_
              rintro e wz ⟨rfl, hwz2⟩
              rw [hwz2]
              clear hwz2 wz
              dsimp only

              have hbdT := HBDT.out
              have hrT := HRT.out
              obtain ⟨y0, y1, y2, z0, z1, z2⟩ := hrT.cells
              have HSZ := Lib.hid (show w1.heap.size ≤ w2.heap.size from HBWT.out.size)
              clear hbdT hrT
              go_wp2_with (at_builtin; refine wpList_append_own _ rfl _ _ 23 rfl w1.heap.size 9 i0 (.string ⟨#[]⟩) 1 16 Tryz.underlying23 hi hz0 hz1 hz2 rfl (by decide) _ _ _ rfl (HRT.out.par.alloc _) ⟨w2.heap.size, 0, none⟩ 1 1 [.string p1] rfl rfl ?c1 ?c2 ?c3 ?c4 ?c5 ?_)
              try (case c1 => exact cell_one_bn _ _ _ _ (by simp))
              case c2 => first | rfl | (intro u hu; simp at hu; subst hu; rfl)
              case c3 => unfold maxLen; have := HPL.out; omega
              case c4 => have := HPL.out; omega
              case c5 => have := HSZ.out; simp; omega
              intro v3 w3 hown3 hgrow3 _
              obtain ⟨g3, cap3, rfl, _, _⟩ := hown3.form (Nat.succ_pos _)
              obtain ⟨hblk3, hr4⟩ := (HRT.out.alloc _).putPath (x := p1) hown3 hgrow3
              have hbd3 := bdF_set (j := 1) (.slice (some ⟨g3, 0, none⟩) ((bpaths (L.take k)).length + 1) cap3) (bdF_grown (bdF_alloc HBDT.out _) (HRT.out.par.alloc _) hgrow3 (by decide) (by decide)) hblk3
              have hbw3 := ((HBWT.out.alloc HSZ.out _).grown hgrow3 (by simp; have := HSZ.out; omega) (fun j hj => (HRT.out.par.lt j hj).1)).setCell (p := ⟨w1.heap.size, 1, none⟩) (Nat.le_refl _) (.slice (some ⟨g3, 0, none⟩) ((bpaths (L.take k)).length + 1) cap3)
              have hc3 : w3.cell? ⟨w1.heap.size, 1, none⟩ = some Pv := (zb_cells hblk3).2.1
              have hf3 : w3.frozen? ⟨w1.heap.size, 1, none⟩ = false := by unfold World.frozen?; simp only [hblk3]; rfl
              obtain ⟨W4, hW4⟩ : ∃ W4, w3.setCell ⟨w1.heap.size, 1, none⟩ (.slice (some ⟨g3, 0, none⟩) ((bpaths (L.take k)).length + 1) cap3) = W4 := ⟨_, rfl⟩
              rw [hW4] at hr4 hbd3 hbw3
              have HR4 := Lib.hid hr4
              have HBD4 := Lib.hid hbd3
              have HBW4 := Lib.hid hbw3
              have HLEN := Lib.hid (fun w2 (h : BdF w1.heap.size (w1.heap.size + 1) (bcat (L.take (k + 1))) w2) => Tryz.Builder_Len_f w1.heap.size (w1.heap.size + 1) (Lib.byteCells (bcat (L.take (k + 1)))) w2 h)
              have HZL := Lib.hid (Lib.byteCells_length (bcat (L.take (k + 1))))
              rw [HZL.out] at HLEN
              obtain ⟨zz, hzz⟩ : ∃ zz : Nat, (bcat (L.take (k + 1))).length = zz := ⟨_, rfl⟩
              have HZZ := Lib.hid hzz
              rw [hzz] at HLEN
              clear hzz
              have HSZ4 := Lib.hid (show w1.heap.size ≤ W4.heap.size from hbw3.size)
              obtain ⟨r0, r1, r2, s0, s1, s2⟩ := hr4.cells
              clear hblk3 hr4 hbd3 hbw3 hown3 hgrow3 y0 y1 y2 z0 z1 z2
              go_upto_region 12 with (fail)
              clear hc3 hf3
              have hca : (W4.alloc (.cells #[.int .i64 (zz : Int)] 3)).cell? ⟨w1.heap.size, 2, none⟩ = some Ev := (HR4.out.alloc (.cells #[.int .i64 (zz : Int)] 3)).cells.2.2.1
              go_region_law (first
                | (go_simp; go_at_call 11; with_reducible refine Calls.mono (HLEN.out _ (by first | exact HBD4.out | exact bd_keep HBD4.out (fun _ _ _ _ _ _ => rfl))) ?_; rintro e w6 ⟨rfl, rfl⟩)
                | (refine step_append_lies _ (by rfl) _ _ _ (by rfl) w1.heap.size 3 j0 _ 1 8 Tryz.underlying24 hj hy0 hy1 hy2 rfl (by omega) Ev (bends L k).length (ivs (bends L k)) (by rfl) (by first | exact HR4.out.en.alloc _ | exact own_keep (HR4.out.en.alloc (.cells #[.int .i64 (zz : Int)] 3)) (fun _ _ _ => rfl)) ⟨W4.heap.size, 0, none⟩ 1 1 [.int .i64 (zz : Int)] (by rfl) (by rfl) (by first | exact World.news_of_block (heap_alloc_new W4 _) | exact fun j u h => World.news_of_block (heap_alloc_new W4 (.cells #[.int .i64 (zz : Int)] 3)) j u h) (by simp [Value.oneCell']) (by omega) (by rw [bends_len]; unfold maxLen; omega) (by rw [bends_len]; omega) (by have := HSZ4.out; simp; omega) (W4.heap.size + 1) (by simp) ?_
                   intro gg cap2 w7 hown7 hgrow7 hat7 hlt7
                   have hpe := RowsAt.putEnd (x := (zz : Int)) (by first | exact HR4.out.alloc (.cells #[.int .i64 (zz : Int)] 3) | exact (HR4.out.alloc (.cells #[.int .i64 (zz : Int)] 3)).keep (fun _ _ _ _ _ _ => rfl)) hown7 hgrow7
                   have hc7 : w7.cell? ⟨w1.heap.size, 2, none⟩ = some Ev := (zb_cells hpe.1).2.2
                   have hf7 : w7.frozen? ⟨w1.heap.size, 2, none⟩ = false := by unfold World.frozen?; simp only [hpe.1]; rfl))
              all_goals (
                have HPE := Lib.hid hpe.2
                have HBD7 := Lib.hid (bdF_set (j := 2) (.slice (some ⟨gg, 0, none⟩) ((bends L k).length + 1) cap2) (bdF_grown (by first | exact bdF_alloc HBD4.out (.cells #[.int .i64 (zz : Int)] 3) | exact bd_keep (bdF_alloc HBD4.out (.cells #[.int .i64 (zz : Int)] 3)) (fun _ _ _ _ _ _ => rfl)) (by first | exact HR4.out.en.alloc (.cells #[.int .i64 (zz : Int)] 3) | exact own_keep (HR4.out.en.alloc (.cells #[.int .i64 (zz : Int)] 3)) (fun _ _ _ => rfl)) hgrow7 (by decide) (by decide)) hpe.1)
                have HBW7 := Lib.hid ((Below.grown (by first | exact HBW4.out.alloc HSZ4.out (.cells #[.int .i64 (zz : Int)] 3) | exact (HBW4.out.alloc HSZ4.out (.cells #[.int .i64 (zz : Int)] 3)).drew) hgrow7 (by simp; have := HSZ4.out; omega) (fun j hj => (HR4.out.en.lt j hj).1)).setCell (p := ⟨w1.heap.size, 2, none⟩) (Nat.le_refl _) (.slice (some ⟨gg, 0, none⟩) ((bends L k).length + 1) cap2))
                clear hpe hown7 hgrow7 hat7 hlt7 r0 r1 r2 s0 s1 s2 hca
                go_wp2_with fail
                go_roundw
                case rel =>
                  refine ⟨k + 1, .slice (some ⟨g3, 0, none⟩) ((bpaths (L.take k)).length + 1) cap3, .slice (some ⟨gg, 0, none⟩) ((bends L k).length + 1) cap2, by omega, by go_num, ?_, HBD7.out, HBW7.out⟩
                  have h := HPE.out
                  have e1 : bpaths (L.take (k + 1)) = bpaths (L.take k) ++ [p1] := by rw [HSN.out]; unfold bpaths; rw [List.map_append]; rfl
                  rw [e1, bends_succ, HZZ.out]
                  exact h
                case measure => simp [intOf]; omega)
            | false =>
              rw [hs] at hsuf
              have HSF := Lib.hid hsuf
              have HX := Lib.hid (show bdl p2 = p2.data.toList ++ [10] by unfold bdl sfx; rw [hs, hemp2]; simp)
              obtain ⟨cb2, hcb2⟩ := bdF_blk HBD2.out
              have HCB2 := Lib.hid hcb2
              have HWB := Lib.hid (writeByteO_any w1.heap.size (w1.heap.size + 1) (Lib.byteCells (bcat (L.take k) ++ p2.data.toList)) 10 w2 HBD2.out (by rw [Lib.byteCells_length, List.length_append, show p2.data.toList.length = p2.size from Array.length_toList]; have := HRM.out; omega) HBW2.out.size)
              clear hs hsuf hcb2
              go_wp2_with fail
              refine (HSF.out _).mono ?_
              rintro e wz ⟨rfl, hwz2⟩
              rw [hwz2]
              clear hwz2 wz
              dsimp only
              go_wp2_with fail
              refine HWB.out.mono ?_
              rintro e wY ⟨rfl, hbdY, hbelY, hothY⟩
              have HRT := Lib.hid (HR2.out.others hothY HCB2.out)
              have hfY : Fb wr.heap.size p1 p2 wY := (others_keep hothY HCB2.out (by decide) (by decide) _ _ _ HF2.out).trans HF2.out
              have HBWT := Lib.hid (HBW2.out.trans hbelY)
              have HBDT := Lib.hid (show BdF w1.heap.size (w1.heap.size + 1) (bcat (L.take (k + 1))) wY by
                rw [HNX.out, HX.out, ← List.append_assoc]
                show Lib.IsBuilderF _ _ _ _ (Lib.byteCells (_ ++ _)) _
                rw [Lib.byteCells_append]
                exact hbdY)
              clear f0 f1 hbdY hbelY hothY
              obtain ⟨f0, f1⟩ := hfY.cells
              clear hfY

              have hbdT := HBDT.out
              have hrT := HRT.out
              obtain ⟨y0, y1, y2, z0, z1, z2⟩ := hrT.cells
              have HSZ := Lib.hid (show w1.heap.size ≤ wY.heap.size from HBWT.out.size)
              clear hbdT hrT
              go_wp2_with (at_builtin; refine wpList_append_own _ rfl _ _ 23 rfl w1.heap.size 9 i0 (.string ⟨#[]⟩) 1 16 Tryz.underlying23 hi hz0 hz1 hz2 rfl (by decide) _ _ _ rfl (HRT.out.par.alloc _) ⟨wY.heap.size, 0, none⟩ 1 1 [.string p1] rfl rfl ?c1 ?c2 ?c3 ?c4 ?c5 ?_)
              try (case c1 => exact cell_one_bn _ _ _ _ (by simp))
              case c2 => first | rfl | (intro u hu; simp at hu; subst hu; rfl)
              case c3 => unfold maxLen; have := HPL.out; omega
              case c4 => have := HPL.out; omega
              case c5 => have := HSZ.out; simp; omega
              intro v3 w3 hown3 hgrow3 _
              obtain ⟨g3, cap3, rfl, _, _⟩ := hown3.form (Nat.succ_pos _)
              obtain ⟨hblk3, hr4⟩ := (HRT.out.alloc _).putPath (x := p1) hown3 hgrow3
              have hbd3 := bdF_set (j := 1) (.slice (some ⟨g3, 0, none⟩) ((bpaths (L.take k)).length + 1) cap3) (bdF_grown (bdF_alloc HBDT.out _) (HRT.out.par.alloc _) hgrow3 (by decide) (by decide)) hblk3
              have hbw3 := ((HBWT.out.alloc HSZ.out _).grown hgrow3 (by simp; have := HSZ.out; omega) (fun j hj => (HRT.out.par.lt j hj).1)).setCell (p := ⟨w1.heap.size, 1, none⟩) (Nat.le_refl _) (.slice (some ⟨g3, 0, none⟩) ((bpaths (L.take k)).length + 1) cap3)
              have hc3 : w3.cell? ⟨w1.heap.size, 1, none⟩ = some Pv := (zb_cells hblk3).2.1
              have hf3 : w3.frozen? ⟨w1.heap.size, 1, none⟩ = false := by unfold World.frozen?; simp only [hblk3]; rfl
              obtain ⟨W4, hW4⟩ : ∃ W4, w3.setCell ⟨w1.heap.size, 1, none⟩ (.slice (some ⟨g3, 0, none⟩) ((bpaths (L.take k)).length + 1) cap3) = W4 := ⟨_, rfl⟩
              rw [hW4] at hr4 hbd3 hbw3
              have HR4 := Lib.hid hr4
              have HBD4 := Lib.hid hbd3
              have HBW4 := Lib.hid hbw3
              have HLEN := Lib.hid (fun wY (h : BdF w1.heap.size (w1.heap.size + 1) (bcat (L.take (k + 1))) wY) => Tryz.Builder_Len_f w1.heap.size (w1.heap.size + 1) (Lib.byteCells (bcat (L.take (k + 1)))) wY h)
              have HZL := Lib.hid (Lib.byteCells_length (bcat (L.take (k + 1))))
              rw [HZL.out] at HLEN
              obtain ⟨zz, hzz⟩ : ∃ zz : Nat, (bcat (L.take (k + 1))).length = zz := ⟨_, rfl⟩
              have HZZ := Lib.hid hzz
              rw [hzz] at HLEN
              clear hzz
              have HSZ4 := Lib.hid (show w1.heap.size ≤ W4.heap.size from hbw3.size)
              obtain ⟨r0, r1, r2, s0, s1, s2⟩ := hr4.cells
              clear hblk3 hr4 hbd3 hbw3 hown3 hgrow3 y0 y1 y2 z0 z1 z2
              go_upto_region 12 with (fail)
              clear hc3 hf3
              have hca : (W4.alloc (.cells #[.int .i64 (zz : Int)] 3)).cell? ⟨w1.heap.size, 2, none⟩ = some Ev := (HR4.out.alloc (.cells #[.int .i64 (zz : Int)] 3)).cells.2.2.1
              go_region_law (first
                | (go_simp; go_at_call 11; with_reducible refine Calls.mono (HLEN.out _ (by first | exact HBD4.out | exact bd_keep HBD4.out (fun _ _ _ _ _ _ => rfl))) ?_; rintro e w6 ⟨rfl, rfl⟩)
                | (refine step_append_lies _ (by rfl) _ _ _ (by rfl) w1.heap.size 3 j0 _ 1 8 Tryz.underlying24 hj hy0 hy1 hy2 rfl (by omega) Ev (bends L k).length (ivs (bends L k)) (by rfl) (by first | exact HR4.out.en.alloc _ | exact own_keep (HR4.out.en.alloc (.cells #[.int .i64 (zz : Int)] 3)) (fun _ _ _ => rfl)) ⟨W4.heap.size, 0, none⟩ 1 1 [.int .i64 (zz : Int)] (by rfl) (by rfl) (by first | exact World.news_of_block (heap_alloc_new W4 _) | exact fun j u h => World.news_of_block (heap_alloc_new W4 (.cells #[.int .i64 (zz : Int)] 3)) j u h) (by simp [Value.oneCell']) (by omega) (by rw [bends_len]; unfold maxLen; omega) (by rw [bends_len]; omega) (by have := HSZ4.out; simp; omega) (W4.heap.size + 1) (by simp) ?_
                   intro gg cap2 w7 hown7 hgrow7 hat7 hlt7
                   have hpe := RowsAt.putEnd (x := (zz : Int)) (by first | exact HR4.out.alloc (.cells #[.int .i64 (zz : Int)] 3) | exact (HR4.out.alloc (.cells #[.int .i64 (zz : Int)] 3)).keep (fun _ _ _ _ _ _ => rfl)) hown7 hgrow7
                   have hc7 : w7.cell? ⟨w1.heap.size, 2, none⟩ = some Ev := (zb_cells hpe.1).2.2
                   have hf7 : w7.frozen? ⟨w1.heap.size, 2, none⟩ = false := by unfold World.frozen?; simp only [hpe.1]; rfl))
              all_goals (
                have HPE := Lib.hid hpe.2
                have HBD7 := Lib.hid (bdF_set (j := 2) (.slice (some ⟨gg, 0, none⟩) ((bends L k).length + 1) cap2) (bdF_grown (by first | exact bdF_alloc HBD4.out (.cells #[.int .i64 (zz : Int)] 3) | exact bd_keep (bdF_alloc HBD4.out (.cells #[.int .i64 (zz : Int)] 3)) (fun _ _ _ _ _ _ => rfl)) (by first | exact HR4.out.en.alloc (.cells #[.int .i64 (zz : Int)] 3) | exact own_keep (HR4.out.en.alloc (.cells #[.int .i64 (zz : Int)] 3)) (fun _ _ _ => rfl)) hgrow7 (by decide) (by decide)) hpe.1)
                have HBW7 := Lib.hid ((Below.grown (by first | exact HBW4.out.alloc HSZ4.out (.cells #[.int .i64 (zz : Int)] 3) | exact (HBW4.out.alloc HSZ4.out (.cells #[.int .i64 (zz : Int)] 3)).drew) hgrow7 (by simp; have := HSZ4.out; omega) (fun j hj => (HR4.out.en.lt j hj).1)).setCell (p := ⟨w1.heap.size, 2, none⟩) (Nat.le_refl _) (.slice (some ⟨gg, 0, none⟩) ((bends L k).length + 1) cap2))
                clear hpe hown7 hgrow7 hat7 hlt7 r0 r1 r2 s0 s1 s2 hca
                go_wp2_with fail
                go_roundw
                case rel =>
                  refine ⟨k + 1, .slice (some ⟨g3, 0, none⟩) ((bpaths (L.take k)).length + 1) cap3, .slice (some ⟨gg, 0, none⟩) ((bends L k).length + 1) cap2, by omega, by go_num, ?_, HBD7.out, HBW7.out⟩
                  have h := HPE.out
                  have e1 : bpaths (L.take (k + 1)) = bpaths (L.take k) ++ [p1] := by rw [HSN.out]; unfold bpaths; rw [List.map_append]; rfl
                  rw [e1, bends_succ, HZZ.out]
                  exact h
                case measure => simp [intOf]; omega)
        · have hkn : k = n := by omega
          have HKN := Lib.hid (show k = L.length by rw [HL.out]; exact hkn)
          have HT := Lib.hid (show L.take k = L by rw [hkn]; exact List.take_of_length_le (by rw [HL.out]; exact Nat.le_refl _))
          have hR := HR.out
          have hBD := HBD.out
          rw [HT.out] at hR hBD
          obtain ⟨Ap, cp, rfl, hcap, hmx, hSR⟩ := own_form_s hR.par rfl
          obtain ⟨Ae, ce, rfl⟩ := own_form_i hR.en
          obtain ⟨ep, hep⟩ : ∃ ep, pathsE (bpaths L) = ep := ⟨_, rfl⟩
          have h2 := paths_any Ap (bpaths L).length cp (bpaths L) wr rfl hcap (by unfold maxLen at hmx; omega) (HM.out.below (HB1.out.trans (HBW.out.mono (Nat.le_of_lt hw1)))) hSR
          have hE := HE.out
          rw [hep] at h2 hE
          have H2 := Lib.hid h2
          obtain ⟨y0, y1, y2, _, _, _⟩ := hR.cells
          have HRR := Lib.hid hR
          have HBB := Lib.hid hBD
          have HE2 := Lib.hid hE
          clear hR hBD hSR h2 hE hep hkn
          go_wp2_with fail
          refine H2.out.mono ?_
          rintro e w5 ⟨rfl, hb5⟩
          have HR5 := Lib.hid (HRR.out.below hb5)
          have HBD5 := Lib.hid (show BdF w1.heap.size (w1.heap.size + 1) (bcat L) w5 from bd_keep HBB.out fun g c t fz _ hc => hb5.block g (Array.getElem?_eq_some_iff.1 hc).1)
          have HBW5 := Lib.hid (HBW.out.trans (hb5.mono hwz))
          have hq5 : Zb w.heap.size w5 := HQ1.out.below HBW5.out hw1
          have HBT5 := Lib.hid (HB1.out.trans (HBW5.out.mono (Nat.le_of_lt hw1)))
          have HQ5 := Lib.hid hq5
          obtain ⟨x0, x1, x2, x3, x4, x5⟩ := hq5.rows.cells
          clear y0 y1 y2 hb5 hq5
          by_cases hP : ep = 0
          · subst hP
            have hE3 := HE2.out.trans (if_neg (by decide))
            have hlenC := Tryz.Builder_Len_f w1.heap.size (w1.heap.size + 1) (Lib.byteCells (bcat L)) w5 HBD5.out
            rw [Lib.byteCells_length] at hlenC
            obtain ⟨zz, hzz⟩ : ∃ zz : Nat, (bcat L).length = zz := ⟨_, rfl⟩
            rw [hzz] at hlenC hE3
            have HLC := Lib.hid hlenC
            have HZZ := Lib.hid hzz
            clear hlenC hzz
            by_cases h200 : 200000 < zz
            · have h200i : (200000 : Int) < (zz : Int) := by omega
              have HE4 := Lib.hid (hE3.trans (if_pos h200))
              clear hE3
              go_wp2_with fail
              refine HLC.out.mono ?_
              rintro e w6 ⟨rfl, hw6⟩
              rw [hw6]
              clear hw6 w6
              dsimp only
              go_wp2_with fail
              obtain ⟨c0, c1, c2⟩ := zb_cells (zb_set HQ5.out (.string ⟨#[]⟩) (.slice none 0 0) (.slice none 0 0))
              exact bodyPost_ret (v := .tuple #[.agg #[.string ⟨#[]⟩, .slice none 0 0, .slice none 0 0], .int .i64 4]) (by simp [results, Tryz.results4, go_sem, c0, c1, c2]; try rfl) rfl (bunPost_bad HE4.out (by decide) (below_set3 HBT5.out (Nat.le_refl _) _ _ _))
            · have h200i : ¬ (200000 : Int) < (zz : Int) := by omega
              have HE4 := Lib.hid (hE3.trans (if_neg h200))
              have HST := Lib.hid (Tryz.Builder_String_any_k w1.heap.size (w1.heap.size + 1) (bcat L) w5 HBD5.out HBW5.out.size)
              obtain ⟨cb5, hcb5⟩ := bdF_blk HBD5.out
              have HCB5 := Lib.hid hcb5
              clear hE3 hcb5 x0 x1 x2 x3 x4 x5
              go_wp2_with fail
              refine HLC.out.mono ?_
              rintro e w6 ⟨rfl, hw6⟩
              rw [hw6]
              clear hw6 w6
              dsimp only
              go_wp2_with fail
              refine HST.out.mono ?_
              rintro e w6 ⟨rfl, _, hbel6, hoth6⟩
              obtain ⟨sb, hsb⟩ : ∃ sb : ByteArray, (⟨(bcat L).toArray⟩ : ByteArray) = sb := ⟨_, rfl⟩
              rw [hsb]
              have HSB := Lib.hid hsb
              have hr6 := HR5.out.others hoth6 HCB5.out
              have HBW6 := Lib.hid (HBW5.out.trans hbel6)
              have hq6 : Zb w.heap.size w6 := HQ1.out.below HBW6.out hw1
              clear hbel6 hoth6 hsb
              obtain ⟨y0, y1, y2, y3, y4, y5⟩ := hr6.cells
              obtain ⟨w8, hw8⟩ : ∃ w8, w6.setCell ⟨w1.heap.size, 0, none⟩ (.string sb) = w8 := ⟨_, rfl⟩
              have hr8 : RowsAt w1.heap.size w1.heap.size sb (.slice Ap (bpaths L).length cp) (bpaths L) (.slice Ae (bends L k).length ce) (bends L k) w8 := by rw [← hw8]; exact hr6.setBody sb
              have hq8 : Zb w.heap.size w8 := by rw [← hw8]; exact (Below.heap_setCell _ _ _ _ (by show w.heap.size ≠ w1.heap.size; omega)).trans hq6
              have HBT8 := Lib.hid (show Below w.heap.size w w8 by rw [← hw8]; exact HB1.out.trans ((HBW6.out.setCell (p := ⟨w1.heap.size, 0, none⟩) (Nat.le_refl _) _).mono (Nat.le_of_lt hw1)))
              have HR8 := Lib.hid hr8
              have HQ8 := Lib.hid hq8
              obtain ⟨u0, u1, u2, _, _, _⟩ := hr8.cells
              obtain ⟨x0, x1, x2, x3, x4, x5⟩ := hq8.rows.cells
              clear hr6 hq6 hr8 hq8
              go_wp2_with fail
              have hf := zb_set HQ8.out (.string sb) (.slice Ap (bpaths L).length cp) (.slice Ae (bends L k).length ce)
              obtain ⟨c0, c1, c2⟩ := zb_cells hf
              refine bodyPost_ret (v := .tuple #[.agg #[.string sb, .slice Ap (bpaths L).length cp, .slice Ae (bends L k).length ce], .int .i64 0]) (by simp [results, Tryz.results4, go_sem, c0, c1, c2]; try rfl) rfl ⟨.slice Ap (bpaths L).length cp, .slice Ae (bends L k).length ce, ?_, ?_, ?_, below_set3 HBT8.out (Nat.le_refl _) _ _ _⟩
              · unfold boB; rw [if_pos HE4.out, HE4.out, HSB.out]
              · unfold boP; rw [if_pos HE4.out]
                exact own_lowU (own_set3U HR8.out.par hw1) (Nat.le_of_lt hw1)
              · unfold boZ; rw [if_pos HE4.out, ← HKN.out]
                exact own_lowU (own_set3U HR8.out.en hw1) (Nat.le_of_lt hw1)
          · have q1 : ¬ ep = 0 := hP
            have q2 : (ep == 0) = false := by simpa using hP
            have HE4 := Lib.hid (HE2.out.trans (if_pos hP))
            go_wp2_with fail
            obtain ⟨c0, c1, c2⟩ := zb_cells (zb_set HQ5.out (.string ⟨#[]⟩) (.slice none 0 0) (.slice none 0 0))
            exact bodyPost_ret (v := .tuple #[.agg #[.string ⟨#[]⟩, .slice none 0 0, .slice none 0 0], .int .i64 ep]) (by simp [results, Tryz.results4, go_sem, c0, c1, c2]; try rfl) rfl (bunPost_bad HE4.out hP (below_set3 HBT5.out (Nat.le_refl _) _ _ _))
end Go.Proofs.YtjghindfnjfdcaaGreatDoor
