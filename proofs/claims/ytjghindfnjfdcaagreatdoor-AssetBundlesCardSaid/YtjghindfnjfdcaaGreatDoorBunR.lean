/- DERIVED. The reference's BundleOf of any files. Conditions: a slice of files that a slice can hold; the library's variable MaxLen holds a number. -/
import Derived.Test.YtjghindfnjfdcaaGreatDoorBunH
namespace Go.Proofs.YtjghindfnjfdcaaGreatDoor
open Go.RowKit
set_option linter.unusedVariables false
set_option linter.unusedSimpArgs false
theorem anyL_take {L : List (ByteArray × ByteArray)} {k : Nat} {p : ByteArray × ByteArray} (hp : L[k]? = some p) (h : anyL (L.take k) = false) : anyL (L.take (k + 1)) = decide (20000 < p.2.size) := by
  rw [take_next hp]
  unfold anyL at h ⊢
  rw [List.any_append, h]
  simp
theorem anyL_some {L : List (ByteArray × ByteArray)} {k : Nat} {p : ByteArray × ByteArray} (hp : L[k]? = some p) (h : 20000 < p.2.size) : anyL L = true := by
  unfold anyL
  rw [List.any_eq_true]
  exact ⟨p, List.mem_of_getElem? hp, by simpa using h⟩
theorem anyL_none {L : List (ByteArray × ByteArray)} (h : ∀ (k : Nat) (p : ByteArray × ByteArray), L[k]? = some p → p.2.size ≤ 20000) : anyL L = false := by
  unfold anyL
  rw [List.any_eq_false]
  intro p hp
  obtain ⟨k, hk⟩ := List.getElem?_of_mem hp
  have := h k p hk
  simp
  omega
theorem bpaths_at {L : List (ByteArray × ByteArray)} {k : Nat} {p : ByteArray × ByteArray} (hp : L[k]? = some p) : (bpaths L)[k]? = some p.1 := by unfold bpaths; rw [List.getElem?_map, hp]; rfl
theorem bpaths_take (L : List (ByteArray × ByteArray)) (k : Nat) : bpaths (L.take k) = (bpaths L).take k := by unfold bpaths; rw [List.map_take]
/-- slices.Contains at a row of the call's own. -/
theorem contO_any {B m : Nat} {v : Value} {ps : List ByteArray} (x : ByteArray) (w : World) (h : w.ownsRow B 9 1 v m (svs ps)) (hm : ps.length = m) :
    Calls Tryz.prog 15 #[v, .string x] w fun e w' => e = .returned (.bool (Lib.containsS ps x)) ∧ w' = w := by
  obtain ⟨A, c, rfl, hc, hmx, hr⟩ := own_form_s h hm
  rcases hr with rfl | ⟨b, off, rfl, hb, hcell⟩
  · obtain rfl : m = 0 := by rw [← hm]; rfl
    exact Tryz.slices_Contains_string_empty A c x w
  · have h := Tryz.slices_Contains_string b off m c ps x w (by omega) (by unfold maxLen at hmx; omega) (fun j hj => by
      rw [hcell j ps[j] (List.getElem?_eq_getElem hj), List.getD_eq_getElem?_getD, List.getElem?_eq_getElem hj]; rfl)
    rw [List.take_of_length_le (by omega)] at h
    exact h
theorem app_toList (a b : ByteArray) : (a ++ b).data.toList = a.data.toList ++ b.data.toList := by simp
def bcB (l : List UInt8) : ByteArray := ⟨l.toArray⟩
theorem bcB_size (l : List UInt8) : (bcB l).size = l.length := by show l.toArray.size = _; simp
theorem bcB_app (l m : List UInt8) : bcB l ++ bcB m = bcB (l ++ m) := by
  apply ByteArray.ext
  simp [bcB]
theorem bcB_of (s : ByteArray) : bcB s.data.toList = s := rfl
set_option maxRecDepth 100000 in
set_option maxHeartbeats 12800000 in
theorem bundleOf_any (A : Option Addr) (n c : Nat) (L : List (ByteArray × ByteArray)) (w : World) (hl : L.length = n) (hn : n ≤ 4611686018427387904) (hF : FilesAt w w.heap.size A L) (hm : MaxT w) :
    Calls Tryz.prog 5 #[.slice A n c] w (BunPost L w) := by
  obtain ⟨i0, hi, hz0, hz1, hz2⟩ := info_parts strInfoB
  obtain ⟨j0, hj, hy0, hy1, hy2⟩ := info_parts intInfoB
  have HL := Lib.hid hl
  have HF := Lib.hid hF
  have HM := Lib.hid hm
  have hq0 : Zb w.heap.size (w.alloc (.cells #[.string ⟨#[]⟩, .slice none 0 0, .slice none 0 0] 26)) := heap_alloc_new w _
  have HB0 := Lib.hid ((Below.refl w.heap.size w).alloc (Nat.le_refl _) (.cells #[.string ⟨#[]⟩, .slice none 0 0, .slice none 0 0] 26))
  have HQ0 := Lib.hid hq0
  clear hl hF hm hq0
  go_enter Tryz.func5, Tryz.ntmps5
  go_wp2_with fail
  go_loopw [11] (fun i wr => ∃ k : Nat, k ≤ n ∧ i = .int .i64 k ∧ (∀ (j : Nat) (p : ByteArray × ByteArray), j < k → L[j]? = some p → p.2.size ≤ 20000) ∧ Zb w.heap.size wr ∧ Below (w.heap.size + 1) (w.alloc (.cells #[.string ⟨#[]⟩, .slice none 0 0, .slice none 0 0] 26)) wr) (fun i _ => n - (intOf i).toNat)
  case atStart => exact ⟨0, Nat.zero_le _, rfl, fun j p h => absurd h (Nat.not_lt_zero _), HQ0.out, Below.refl _ _⟩
  case round =>
    obtain ⟨k, hk, rfl, hsm, hzb, hbw⟩ := hrel
    have HSM := Lib.hid hsm
    have HZB := Lib.hid hzb
    have HBT := Lib.hid (HB0.out.trans (hbw.mono (by omega)))
    have HBW := Lib.hid hbw
    clear hsm hzb hbw
    by_cases hlt : k < n
    · obtain ⟨p, hp⟩ : ∃ p, L[k]? = some p := ⟨_, List.getElem?_eq_getElem (by rw [HL.out]; exact hlt)⟩
      have HP := Lib.hid hp
      obtain ⟨p1, p2⟩ := p
      obtain ⟨b, off, rfl, hb, g0, g1⟩ := (HF.out.below HBT.out (Nat.le_refl _)).at hp
      dsimp only at g0 g1
      clear hp
      by_cases h20 : 20000 < p2.size
      · have h20i : (20000 : Int) < (p2.size : Int) := by omega
        have HE := Lib.hid (show boE L = 4 by unfold boE; rw [if_pos (.inr (anyL_some HP.out h20))])
        have hzA : Zb w.heap.size (wr.alloc (.cells #[.string p1, .string p2] 37)) := (Below.heap_alloc _ _ _ (Array.getElem?_eq_some_iff.1 HZB.out).1).trans HZB.out
        have HBA := Lib.hid (HBT.out.alloc HBT.out.size (.cells #[.string p1, .string p2] 37))
        have HZA := Lib.hid hzA
        obtain ⟨x0, x1, x2, x3, x4, x5⟩ := hzA.rows.cells
        clear hzA
        go_wp2_with fail
        obtain ⟨c0, c1, c2⟩ := zb_cells (zb_set HZA.out (.string ⟨#[]⟩) (.slice none 0 0) (.slice none 0 0))
        exact bodyPost_ret (v := .tuple #[.agg #[.string ⟨#[]⟩, .slice none 0 0, .slice none 0 0], .int .i64 4]) (by simp [results, Tryz.results5, go_sem, c0, c1, c2]; try rfl) rfl (bunPost_bad HE.out (by decide) (below_set3 HBA.out (Nat.le_refl _) _ _ _))
      · have h20i : ¬ (20000 : Int) < (p2.size : Int) := by omega
        have HZA := Lib.hid (show Zb w.heap.size (wr.alloc (.cells #[.string p1, .string p2] 37)) from (Below.heap_alloc _ _ _ (Array.getElem?_eq_some_iff.1 HZB.out).1).trans HZB.out)
        have HBA := Lib.hid (HBW.out.alloc (by have := HBW.out.size; simp at this; omega) (.cells #[.string p1, .string p2] 37))
        go_wp2_with fail
        go_roundw
        case rel =>
          refine ⟨k + 1, by omega, by go_num, fun j p hj hp => ?_, HZA.out, HBA.out⟩
          rcases Nat.lt_succ_iff_lt_or_eq.1 hj with h | rfl
          · exact HSM.out j p h hp
          · rw [HP.out] at hp
            cases hp
            exact Nat.le_of_not_lt h20
        case measure => simp [intOf]; omega
    · obtain rfl : k = n := by omega
      have HA := Lib.hid (show anyL L = false from anyL_none fun j p hp => HSM.out j p (by have := (List.getElem?_eq_some_iff.1 hp).1; rw [HL.out] at this; exact this) hp)
      by_cases h40 : 40 < k
      · have h40i : (40 : Int) < (k : Int) := by omega
        have HE := Lib.hid (show boE L = 4 by unfold boE; rw [if_pos (.inl (by rw [HL.out]; exact h40))])
        obtain ⟨x0, x1, x2, x3, x4, x5⟩ := HZB.out.rows.cells
        go_wp2_with fail
        obtain ⟨c0, c1, c2⟩ := zb_cells (zb_set HZB.out (.string ⟨#[]⟩) (.slice none 0 0) (.slice none 0 0))
        exact bodyPost_ret (v := .tuple #[.agg #[.string ⟨#[]⟩, .slice none 0 0, .slice none 0 0], .int .i64 4]) (by simp [results, Tryz.results5, go_sem, c0, c1, c2]; try rfl) rfl (bunPost_bad HE.out (by decide) (below_set3 HBT.out (Nat.le_refl _) _ _ _))
      · have h40i : ¬ (40 : Int) < (k : Int) := by omega
        have HCL := Lib.hid (bcat_len HA.out)
        have HE := Lib.hid (show boE L = if pathsE (bpaths L) ≠ 0 then pathsE (bpaths L) else if 200000 < (bcat L).length then 4 else 0 by unfold boE; rw [if_neg (fun h => h.elim (fun h => by rw [HL.out] at h; omega) (fun h => by rw [HA.out] at h; cases h))])
        have hw1 : w.heap.size < wr.heap.size := (Array.getElem?_eq_some_iff.1 HZB.out).1
        have HZ4 := Lib.hid (show RowsAt wr.heap.size wr.heap.size ⟨#[]⟩ (.slice none 0 0) [] (.slice none 0 0) [] (wr.alloc (.cells #[.string ⟨#[]⟩, .slice none 0 0, .slice none 0 0] 26)) from Zb.rows (heap_alloc_new wr _))
        have HBL0 := Lib.hid ((Below.refl wr.heap.size wr).alloc (Nat.le_refl _) (.cells #[.string ⟨#[]⟩, .slice none 0 0, .slice none 0 0] 26))
        obtain ⟨wo, hwo⟩ : ∃ wo, wo = wr := ⟨_, rfl⟩
        subst hwo
        obtain ⟨n1, hn1⟩ : ∃ n1 : Nat, n1 = k := ⟨_, rfl⟩
        subst hn1
        go_wp2_with fail
        go_loopw [27] (fun i wr => ∃ (k : Nat) (Pv Ev : Value), k ≤ n1 ∧ i = .int .i64 k ∧ RowsAt wo.heap.size wo.heap.size (bcB (bcat (L.take k))) Pv (bpaths (L.take k)) Ev (bends L k) wr ∧ pathsE (bpaths L) = pE ((bpaths L).take k) ((bpaths L).drop k) ∧ Below wo.heap.size wo wr) (fun i _ => n1 - (intOf i).toNat)
        case atStart => exact ⟨0, _, _, Nat.zero_le _, rfl, HZ4.out, rfl, HBL0.out⟩
        case round =>
          obtain ⟨k, Pv, Ev, hk, rfl, hrow, hpe, hbw⟩ := hrel
          have HR := Lib.hid hrow
          have HBW := Lib.hid hbw
          have HPE := Lib.hid hpe
          have hwz := hbw.size
          have HZR := Lib.hid (HZB.out.below hbw hw1)
          have HBTR := Lib.hid (HBT.out.trans (hbw.mono (Nat.le_of_lt hw1)))
          clear hrow hbw hpe
          by_cases hlt : k < n1
          · obtain ⟨p, hp⟩ : ∃ p, L[k]? = some p := ⟨_, List.getElem?_eq_getElem (by rw [HL.out]; exact hlt)⟩
            have h20 := anyL_at HA.out hp
            have HSN := Lib.hid (take_next hp)
            have hk40 : k < 40 := by omega
            have hroom := HCL.out k
            have hnx := HPE.out.trans (pE_next (bpaths_at hp))
            obtain ⟨p1, p2⟩ := p
            obtain ⟨b, off, rfl, hb, g0, g1⟩ := (HF.out.below HBTR.out (Nat.le_refl _)).at hp
            dsimp only at g0 g1 h20 hnx
            have HPL := Lib.hid (show (bpaths (L.take k)).length ≤ 40 by unfold bpaths; rw [List.length_map, List.length_take]; omega)
            have HNX := Lib.hid (show bcat (L.take (k + 1)) = bcat (L.take k) ++ bdl p2 by rw [HSN.out, bcat_snoc])
            obtain ⟨W1, hW1⟩ : ∃ W1, wr.alloc (.cells #[.string p1, .string p2] 37) = W1 := ⟨_, rfl⟩
            have hfb : Fb wr.heap.size p1 p2 W1 := by rw [← hW1]; exact heap_alloc_new _ _
            have HRA := Lib.hid (show RowsAt wo.heap.size wo.heap.size (bcB (bcat (L.take k))) Pv (bpaths (L.take k)) Ev (bends L k) W1 by rw [← hW1]; exact HR.out.alloc _)
            have HBWA := Lib.hid (show Below wo.heap.size wo W1 by rw [← hW1]; exact HBW.out.alloc hwz _)
            have HBTA := Lib.hid (HBT.out.trans (HBWA.out.mono (Nat.le_of_lt hw1)))
            have HPA := Lib.hid (rPath_any p1 W1 (HM.out.below HBTA.out))
            have HFB := Lib.hid hfb
            have HRM := Lib.hid hroom
            obtain ⟨u0, u1⟩ := hfb.cells
            clear hfb hroom hp
            cases htp : tpathB p1 with
            | false =>
              rw [htp] at HPA hnx
              have HE3 := Lib.hid (HE.out.trans (by rw [hnx, if_pos rfl, if_pos (by decide)] : _ = (3 : Int)))
              clear hnx htp
              go_wp2_with fail
              refine HPA.out.mono ?_
              rintro e w2 ⟨rfl, hb2⟩
              have HBW2 := Lib.hid (HBWA.out.trans (hb2.mono HBWA.out.size))
              have hz2q := HZB.out.below HBW2.out hw1
              have HZ2 := Lib.hid hz2q
              have HBT2 := Lib.hid (HBT.out.trans (HBW2.out.mono (Nat.le_of_lt hw1)))
              obtain ⟨x0, x1, x2, x3, x4, x5⟩ := hz2q.rows.cells
              clear hb2 hz2q u0 u1
              go_wp2_with fail
              obtain ⟨c0, c1, c2⟩ := zb_cells (zb_set HZ2.out (.string ⟨#[]⟩) (.slice none 0 0) (.slice none 0 0))
              exact bodyPost_ret (v := .tuple #[.agg #[.string ⟨#[]⟩, .slice none 0 0, .slice none 0 0], .int .i64 3]) (by simp [results, Tryz.results5, go_sem, c0, c1, c2]; try rfl) rfl (bunPost_bad HE3.out (by decide) (below_set3 HBT2.out (Nat.le_refl _) _ _ _))
            | true =>
              rw [htp] at HPA hnx
              have hnx := hnx.trans (if_neg (by decide))
              rw [← bpaths_take] at hnx
              go_wp2_with fail
              refine HPA.out.mono ?_
              rintro e w2 ⟨rfl, hb2⟩
              have HR2 := Lib.hid (HRA.out.below hb2)
              have hf2 : Fb wr.heap.size p1 p2 w2 := (hb2.block _ (Array.getElem?_eq_some_iff.1 HFB.out).1).trans HFB.out
              have HF2 := Lib.hid hf2
              have HBW2 := Lib.hid (HBWA.out.trans (hb2.mono HBWA.out.size))
              have HCT := Lib.hid (contO_any p1 w2 HR2.out.par rfl)
              obtain ⟨y0, y1, y2, y3, y4, y5⟩ := HR2.out.cells
              clear u0 u1
              obtain ⟨f0, f1⟩ := hf2.cells
              clear hb2 hf2 htp hW1
              cases hct : Lib.containsS (bpaths (L.take k)) p1 with
              | true =>
                rw [hct] at HCT hnx
                have HE6 := Lib.hid (HE.out.trans (by rw [hnx, if_pos rfl, if_pos (by decide)] : _ = (6 : Int)))
                have hz2q := HZB.out.below HBW2.out hw1
                have HZ2 := Lib.hid hz2q
                have HBT2 := Lib.hid (HBT.out.trans (HBW2.out.mono (Nat.le_of_lt hw1)))
                obtain ⟨x0, x1, x2, x3, x4, x5⟩ := hz2q.rows.cells
                clear hnx hz2q hct
                go_wp2_with fail
                refine HCT.out.mono ?_
                rintro e w3 ⟨rfl, hw3⟩
                rw [hw3]
                clear hw3 w3
                dsimp only
                go_wp2_with fail
                obtain ⟨c0, c1, c2⟩ := zb_cells (zb_set HZ2.out (.string ⟨#[]⟩) (.slice none 0 0) (.slice none 0 0))
                exact bodyPost_ret (v := .tuple #[.agg #[.string ⟨#[]⟩, .slice none 0 0, .slice none 0 0], .int .i64 6]) (by simp [results, Tryz.results5, go_sem, c0, c1, c2]; try rfl) rfl (bunPost_bad HE6.out (by decide) (below_set3 HBT2.out (Nat.le_refl _) _ _ _))
              | false =>
                rw [hct] at HCT hnx
                have HPE2 := Lib.hid (hnx.trans (if_neg (by decide)))
                clear hnx hct
                go_wp2_with fail
                refine HCT.out.mono ?_
                rintro e w3 ⟨rfl, hw3⟩
                rw [hw3]
                clear hw3 w3
                dsimp only
                have HSZ := Lib.hid (show wo.heap.size ≤ w2.heap.size from HBW2.out.size)
                go_wp2_with (at_builtin; refine wpList_append_own _ rfl _ _ 23 rfl wo.heap.size 9 i0 (.string ⟨#[]⟩) 1 16 Tryz.underlying23 hi hz0 hz1 hz2 rfl (by decide) _ _ _ rfl (HR2.out.par.alloc _) ⟨w2.heap.size, 0, none⟩ 1 1 [.string p1] rfl rfl ?c1 ?c2 ?c3 ?c4 ?c5 ?_)
                try (case c1 => exact cell_one_bn _ _ _ _ (by simp))
                case c2 => first | rfl | (intro u hu; simp at hu; subst hu; rfl)
                case c3 => unfold maxLen; have := HPL.out; omega
                case c4 => have := HPL.out; omega
                case c5 => have := HSZ.out; simp; omega
                intro v3 w3 hown3 hgrow3 _
                obtain ⟨g3, cap3, rfl, _, _⟩ := hown3.form (Nat.succ_pos _)
                obtain ⟨hblk3, hr4⟩ := (HR2.out.alloc _).putPath (x := p1) hown3 hgrow3
                have hbw3 := ((HBW2.out.alloc HSZ.out _).grown hgrow3 (by simp; have := HSZ.out; omega) (fun j hj => (HR2.out.par.lt j hj).1)).setCell (p := ⟨wo.heap.size, 1, none⟩) (Nat.le_refl _) (.slice (some ⟨g3, 0, none⟩) ((bpaths (L.take k)).length + 1) cap3)
                have hc3 : w3.cell? ⟨wo.heap.size, 1, none⟩ = some Pv := (zb_cells hblk3).2.1
                have hf3 : w3.frozen? ⟨wo.heap.size, 1, none⟩ = false := by unfold World.frozen?; simp only [hblk3]; rfl
                have hfb3 : Fb wr.heap.size p1 p2 w3 := (grown_keep (HR2.out.par.alloc _) hgrow3 (by decide) _ _ _ ((alloc_keep w2 _ _ _ HF2.out).trans HF2.out)).trans ((alloc_keep w2 _ _ _ HF2.out).trans HF2.out)
                obtain ⟨W4, hW4⟩ : ∃ W4, w3.setCell ⟨wo.heap.size, 1, none⟩ (.slice (some ⟨g3, 0, none⟩) ((bpaths (L.take k)).length + 1) cap3) = W4 := ⟨_, rfl⟩
                have hfb4 : Fb wr.heap.size p1 p2 W4 := by rw [← hW4]; exact (set_keep w3 wo.heap.size 1 _ hblk3 (by decide) _ _ _ hfb3).trans hfb3
                rw [hW4] at hr4 hbw3
                have HR4 := Lib.hid hr4
                have HBW4 := Lib.hid hbw3
                have HF4 := Lib.hid hfb4
                clear hblk3 hown3 hgrow3 hfb3 y0 y1 y2 y3 y4 y5 f0 f1
                obtain ⟨r0, r1, r2, s0, s1, s2⟩ := hr4.cells
                obtain ⟨f0, f1⟩ := hfb4.cells
                clear hr4 hbw3 hfb4
                obtain ⟨S1, hS1⟩ : ∃ S1, bcB (bcat (L.take k)) = S1 := ⟨_, rfl⟩
                have hS1z : S1.size ≤ 20001 * 40 := by rw [← hS1, bcB_size]; have := HRM.out; omega
                have HS1 := Lib.hid hS1
                rw [hS1] at r0
                obtain ⟨S2, hS2⟩ : ∃ S2, S1 ++ p2 = S2 := ⟨_, rfl⟩
                have p1a : ∀ wx, (Op.stringOp .add S1 p2).run Tryz.prog wx = .ok (.string S2) wx := fun wx => by rw [← hS2]; exact run_string_add_sum (P := Tryz.prog) (w := wx) S1 p2 (by omega)
                have hS2z : S2.size ≤ 20001 * 41 := by rw [← hS2, ByteArray.size_append]; omega
                have HS2 := Lib.hid hS2
                obtain ⟨W5, hW5⟩ : ∃ W5, W4.setCell ⟨wo.heap.size, 0, none⟩ (.string S2) = W5 := ⟨_, rfl⟩
                have hr5 : RowsAt wo.heap.size wo.heap.size S2 (.slice (some ⟨g3, 0, none⟩) ((bpaths (L.take k)).length + 1) cap3) (bpaths (L.take k) ++ [p1]) Ev (bends L k) W5 := by rw [← hW5]; exact HR4.out.setBody S2
                have hfb5 : Fb wr.heap.size p1 p2 W5 := by rw [← hW5]; exact (set_keep W4 wo.heap.size 0 _ HR4.out.blk (by decide) _ _ _ HF4.out).trans HF4.out
                have HBW5 := Lib.hid (show Below wo.heap.size wo W5 by rw [← hW5]; exact HBW4.out.setCell (p := ⟨wo.heap.size, 0, none⟩) (Nat.le_refl _) _)
                have HR5 := Lib.hid hr5
                have HF5 := Lib.hid hfb5
                obtain ⟨q0, q1, q2, t0, t1, t2⟩ := hr5.cells
                obtain ⟨m0, m1⟩ := hfb5.cells
                clear hr5 hfb5 hS1 hS2
                by_cases hemp : p2.toList = []
                · have HX := Lib.hid (show bdl p2 = p2.data.toList by unfold bdl sfx; rw [hemp]; simp)
                  have HSB := Lib.hid (show bcB (bcat (L.take (k + 1))) = S2 by rw [HNX.out, HX.out, ← bcB_app, bcB_of, HS1.out, HS2.out])
                  have HTZ := Lib.hid (show wo.heap.size ≤ W5.heap.size from HBW5.out.size)
                  have HTL := Lib.hid (show (bcat (L.take (k + 1))).length = S2.size by rw [← HSB.out, bcB_size])
                  go_wp2_with (at_builtin; refine wpList_append_own _ rfl _ _ 24 rfl wo.heap.size 3 j0 (.int .i64 0) 1 8 Tryz.underlying24 hj hy0 hy1 hy2 rfl (by decide) _ _ _ rfl (HR5.out.en.alloc _) ⟨W5.heap.size, 0, none⟩ 1 1 [.int .i64 (S2.size : Int)] rfl rfl ?e1 ?e2 ?e3 ?e4 ?e5 ?_)
                  try (case e1 => exact cell_one_bn _ _ _ _ (by simp))
                  case e2 => first | rfl | (intro u hu; simp at hu; subst hu; rfl)
                  case e3 => rw [bends_len]; unfold maxLen; omega
                  case e4 => rw [bends_len]; omega
                  case e5 => have := HTZ.out; simp; omega
                  intro v7 w7 hown7 hgrow7 _
                  obtain ⟨g7, cap7, rfl, _, _⟩ := hown7.form (Nat.succ_pos _)
                  obtain ⟨hblk7, hr7⟩ := (HR5.out.alloc _).putEnd (x := (S2.size : Int)) hown7 hgrow7
                  have HBW7 := Lib.hid (((HBW5.out.alloc HTZ.out _).grown hgrow7 (by simp; have := HTZ.out; omega) (fun j hj => (HR5.out.en.lt j hj).1)).setCell (p := ⟨wo.heap.size, 2, none⟩) (Nat.le_refl _) (.slice (some ⟨g7, 0, none⟩) ((bends L k).length + 1) cap7))
                  have hc7 : w7.cell? ⟨wo.heap.size, 2, none⟩ = some Ev := (zb_cells hblk7).2.2
                  have hf7 : w7.frozen? ⟨wo.heap.size, 2, none⟩ = false := by unfold World.frozen?; simp only [hblk7]; rfl
                  have HR7 := Lib.hid hr7
                  clear hblk7 hr7 hown7 hgrow7
                  go_wp2_with fail
                  go_roundw
                  case rel =>
                    refine ⟨k + 1, .slice (some ⟨g3, 0, none⟩) ((bpaths (L.take k)).length + 1) cap3, .slice (some ⟨g7, 0, none⟩) ((bends L k).length + 1) cap7, by omega, by go_num, ?_, HPE2.out, HBW7.out⟩
                    have h := HR7.out
                    have e1 : bpaths (L.take (k + 1)) = bpaths (L.take k) ++ [p1] := by rw [HSN.out]; unfold bpaths; rw [List.map_append]; rfl
                    rw [e1, bends_succ, HTL.out, HSB.out]
                    exact h
                  case measure => simp [intOf]; omega
                · have hemp2 : (p2.toList == []) = false := by simpa using hemp
                  have hsuf := fun wX => Tryz.strings_HasSuffix p2 ⟨#[10]⟩ wX (by omega)
                  rw [show (⟨#[10]⟩ : ByteArray).data.toList = [10] from rfl] at hsuf
                  cases hs : Lib.hasSuffix p2.data.toList [10] with
                  | true =>
                    rw [hs] at hsuf
                    have HSF := Lib.hid hsuf
                    have HX := Lib.hid (show bdl p2 = p2.data.toList by unfold bdl sfx; rw [hs]; simp)
                    have HSB := Lib.hid (show bcB (bcat (L.take (k + 1))) = S2 by rw [HNX.out, HX.out, ← bcB_app, bcB_of, HS1.out, HS2.out])
                    clear hs hsuf
                    go_wp2_with fail
                    refine (HSF.out _).mono ?_
                    rintro e wz ⟨rfl, hwz2⟩
                    rw [hwz2]
                    clear hwz2 wz
                    dsimp only
                    have HTZ := Lib.hid (show wo.heap.size ≤ W5.heap.size from HBW5.out.size)
                    have HTL := Lib.hid (show (bcat (L.take (k + 1))).length = S2.size by rw [← HSB.out, bcB_size])
                    go_wp2_with (at_builtin; refine wpList_append_own _ rfl _ _ 24 rfl wo.heap.size 3 j0 (.int .i64 0) 1 8 Tryz.underlying24 hj hy0 hy1 hy2 rfl (by decide) _ _ _ rfl (HR5.out.en.alloc _) ⟨W5.heap.size, 0, none⟩ 1 1 [.int .i64 (S2.size : Int)] rfl rfl ?e1 ?e2 ?e3 ?e4 ?e5 ?_)
                    try (case e1 => exact cell_one_bn _ _ _ _ (by simp))
                    case e2 => first | rfl | (intro u hu; simp at hu; subst hu; rfl)
                    case e3 => rw [bends_len]; unfold maxLen; omega
                    case e4 => rw [bends_len]; omega
                    case e5 => have := HTZ.out; simp; omega
                    intro v7 w7 hown7 hgrow7 _
                    obtain ⟨g7, cap7, rfl, _, _⟩ := hown7.form (Nat.succ_pos _)
                    obtain ⟨hblk7, hr7⟩ := (HR5.out.alloc _).putEnd (x := (S2.size : Int)) hown7 hgrow7
                    have HBW7 := Lib.hid (((HBW5.out.alloc HTZ.out _).grown hgrow7 (by simp; have := HTZ.out; omega) (fun j hj => (HR5.out.en.lt j hj).1)).setCell (p := ⟨wo.heap.size, 2, none⟩) (Nat.le_refl _) (.slice (some ⟨g7, 0, none⟩) ((bends L k).length + 1) cap7))
                    have hc7 : w7.cell? ⟨wo.heap.size, 2, none⟩ = some Ev := (zb_cells hblk7).2.2
                    have hf7 : w7.frozen? ⟨wo.heap.size, 2, none⟩ = false := by unfold World.frozen?; simp only [hblk7]; rfl
                    have HR7 := Lib.hid hr7
                    clear hblk7 hr7 hown7 hgrow7
                    go_wp2_with fail
                    go_roundw
                    case rel =>
                      refine ⟨k + 1, .slice (some ⟨g3, 0, none⟩) ((bpaths (L.take k)).length + 1) cap3, .slice (some ⟨g7, 0, none⟩) ((bends L k).length + 1) cap7, by omega, by go_num, ?_, HPE2.out, HBW7.out⟩
                      have h := HR7.out
                      have e1 : bpaths (L.take (k + 1)) = bpaths (L.take k) ++ [p1] := by rw [HSN.out]; unfold bpaths; rw [List.map_append]; rfl
                      rw [e1, bends_succ, HTL.out, HSB.out]
                      exact h
                    case measure => simp [intOf]; omega
                  | false =>
                    rw [hs] at hsuf
                    have HSF := Lib.hid hsuf
                    have HX := Lib.hid (show bdl p2 = p2.data.toList ++ [10] by unfold bdl sfx; rw [hs, hemp2]; simp)
                    obtain ⟨S3, hS3⟩ : ∃ S3, S2 ++ ⟨#[10]⟩ = S3 := ⟨_, rfl⟩
                    have p2a : ∀ wx, (Op.stringOp .add S2 ⟨#[10]⟩).run Tryz.prog wx = .ok (.string S3) wx := fun wx => by rw [← hS3]; exact run_string_add_sum (P := Tryz.prog) (w := wx) S2 ⟨#[10]⟩ (by show _ + 1 ≤ _; omega)
                    have hS3z : S3.size ≤ 20001 * 42 := by rw [← hS3, ByteArray.size_append]; show _ + 1 ≤ _; omega
                    have HSB := Lib.hid (show bcB (bcat (L.take (k + 1))) = S3 by rw [HNX.out, HX.out, ← List.append_assoc, ← bcB_app, ← bcB_app, bcB_of, HS1.out, HS2.out, ← hS3]; rfl)
                    obtain ⟨W6, hW6⟩ : ∃ W6, W5.setCell ⟨wo.heap.size, 0, none⟩ (.string S3) = W6 := ⟨_, rfl⟩
                    have hr6 : RowsAt wo.heap.size wo.heap.size S3 (.slice (some ⟨g3, 0, none⟩) ((bpaths (L.take k)).length + 1) cap3) (bpaths (L.take k) ++ [p1]) Ev (bends L k) W6 := by rw [← hW6]; exact HR5.out.setBody S3
                    have HBW6 := Lib.hid (show Below wo.heap.size wo W6 by rw [← hW6]; exact HBW5.out.setCell (p := ⟨wo.heap.size, 0, none⟩) (Nat.le_refl _) _)
                    have HR6 := Lib.hid hr6
                    clear hs hsuf hS3
                    go_wp2_with fail
                    refine (HSF.out _).mono ?_
                    rintro e wz ⟨rfl, hwz2⟩
                    rw [hwz2]
                    clear hwz2 wz
                    dsimp only
                    obtain ⟨b0, b1, b2, d0, d1, d2⟩ := hr6.cells
                    clear hr6
                    have HTZ := Lib.hid (show wo.heap.size ≤ W6.heap.size from HBW6.out.size)
                    have HTL := Lib.hid (show (bcat (L.take (k + 1))).length = S3.size by rw [← HSB.out, bcB_size])
                    go_wp2_with (at_builtin; refine wpList_append_own _ rfl _ _ 24 rfl wo.heap.size 3 j0 (.int .i64 0) 1 8 Tryz.underlying24 hj hy0 hy1 hy2 rfl (by decide) _ _ _ rfl (HR6.out.en.alloc _) ⟨W6.heap.size, 0, none⟩ 1 1 [.int .i64 (S3.size : Int)] rfl rfl ?e1 ?e2 ?e3 ?e4 ?e5 ?_)
                    try (case e1 => exact cell_one_bn _ _ _ _ (by simp))
                    case e2 => first | rfl | (intro u hu; simp at hu; subst hu; rfl)
                    case e3 => rw [bends_len]; unfold maxLen; omega
                    case e4 => rw [bends_len]; omega
                    case e5 => have := HTZ.out; simp; omega
                    intro v7 w7 hown7 hgrow7 _
                    obtain ⟨g7, cap7, rfl, _, _⟩ := hown7.form (Nat.succ_pos _)
                    obtain ⟨hblk7, hr7⟩ := (HR6.out.alloc _).putEnd (x := (S3.size : Int)) hown7 hgrow7
                    have HBW7 := Lib.hid (((HBW6.out.alloc HTZ.out _).grown hgrow7 (by simp; have := HTZ.out; omega) (fun j hj => (HR6.out.en.lt j hj).1)).setCell (p := ⟨wo.heap.size, 2, none⟩) (Nat.le_refl _) (.slice (some ⟨g7, 0, none⟩) ((bends L k).length + 1) cap7))
                    have hc7 : w7.cell? ⟨wo.heap.size, 2, none⟩ = some Ev := (zb_cells hblk7).2.2
                    have hf7 : w7.frozen? ⟨wo.heap.size, 2, none⟩ = false := by unfold World.frozen?; simp only [hblk7]; rfl
                    have HR7 := Lib.hid hr7
                    clear hblk7 hr7 hown7 hgrow7
                    go_wp2_with fail
                    go_roundw
                    case rel =>
                      refine ⟨k + 1, .slice (some ⟨g3, 0, none⟩) ((bpaths (L.take k)).length + 1) cap3, .slice (some ⟨g7, 0, none⟩) ((bends L k).length + 1) cap7, by omega, by go_num, ?_, HPE2.out, HBW7.out⟩
                      have h := HR7.out
                      have e1 : bpaths (L.take (k + 1)) = bpaths (L.take k) ++ [p1] := by rw [HSN.out]; unfold bpaths; rw [List.map_append]; rfl
                      rw [e1, bends_succ, HTL.out, HSB.out]
                      exact h
                    case measure => simp [intOf]; omega
          · have hkn : k = n1 := by omega
            have HKN := Lib.hid (show k = L.length by rw [HL.out]; exact hkn)
            have HT := Lib.hid (show L.take k = L by rw [hkn]; exact List.take_of_length_le (by rw [HL.out]; exact Nat.le_refl _))
            have hR := HR.out
            rw [HT.out] at hR
            have h0 := HPE.out
            rw [List.drop_of_length_le (by unfold bpaths; rw [List.length_map, HL.out]; omega)] at h0
            have hE3 := HE.out.trans (if_neg (fun h => h h0))
            obtain ⟨Ap, cp, rfl, hcap, hmx, hSR⟩ := own_form_s hR.par rfl
            obtain ⟨Ae, ce, rfl⟩ := own_form_i hR.en
            obtain ⟨sb, hsb⟩ : ∃ sb : ByteArray, bcB (bcat L) = sb := ⟨_, rfl⟩
            rw [hsb] at hR
            have HSB := Lib.hid hsb
            have hzl : (bcat L).length = sb.size := by rw [← hsb, bcB_size]
            rw [hzl] at hE3
            have HR8 := Lib.hid hR
            obtain ⟨u0, u1, u2, _, _, _⟩ := hR.cells
            obtain ⟨x0, x1, x2, x3, x4, x5⟩ := HZR.out.rows.cells
            clear hR hSR hsb hzl h0 hkn
            by_cases h200 : 200000 < sb.size
            · have h200i : (200000 : Int) < (sb.size : Int) := by omega
              have HE4 := Lib.hid (hE3.trans (if_pos h200))
              clear hE3
              go_wp2_with fail
              obtain ⟨c0, c1, c2⟩ := zb_cells (zb_set HZR.out (.string ⟨#[]⟩) (.slice none 0 0) (.slice none 0 0))
              exact bodyPost_ret (v := .tuple #[.agg #[.string ⟨#[]⟩, .slice none 0 0, .slice none 0 0], .int .i64 4]) (by simp [results, Tryz.results5, go_sem, c0, c1, c2]; try rfl) rfl (bunPost_bad HE4.out (by decide) (below_set3 HBTR.out (Nat.le_refl _) _ _ _))
            · have h200i : ¬ (200000 : Int) < (sb.size : Int) := by omega
              have HE4 := Lib.hid (hE3.trans (if_neg h200))
              clear hE3
              go_wp2_with fail
              have hf := zb_set HZR.out (.string sb) (.slice Ap (bpaths L).length cp) (.slice Ae (bends L k).length ce)
              obtain ⟨c0, c1, c2⟩ := zb_cells hf
              refine bodyPost_ret (v := .tuple #[.agg #[.string sb, .slice Ap (bpaths L).length cp, .slice Ae (bends L k).length ce], .int .i64 0]) (by simp [results, Tryz.results5, go_sem, c0, c1, c2]; try rfl) rfl ⟨.slice Ap (bpaths L).length cp, .slice Ae (bends L k).length ce, ?_, ?_, ?_, below_set3 HBTR.out (Nat.le_refl _) _ _ _⟩
              · unfold boB; rw [if_pos HE4.out, HE4.out, ← HSB.out]; rfl
              · unfold boP; rw [if_pos HE4.out]
                exact own_lowU (own_set3U HR8.out.par hw1) (Nat.le_of_lt hw1)
              · unfold boZ; rw [if_pos HE4.out, ← HKN.out]
                exact own_lowU (own_set3U HR8.out.en hw1) (Nat.le_of_lt hw1)
end Go.Proofs.YtjghindfnjfdcaaGreatDoor
