/- DERIVED. What PageSections returns: true. Conditions: strings of at most 2^20 bytes, at most 2^20 entries; the library's variables MaxLen and of powers of ten are as the program's text lays them. -/
import Derived.Test.YtfmmpfoecjehiaaDoorSectCut
import Derived.Deep.QuietTactic
import Derived.BigQuiet
namespace Go.Proofs.YtfmmpfoecjehiaaDoor
set_option linter.unusedVariables false
open Go.RowKit
theorem toListS {s : ByteArray} : s.toList = s.data.toList := by
  obtain ⟨⟨l⟩⟩ := s
  simp
theorem size0S {s : ByteArray} (h : s.size = 0) : s = ⟨#[]⟩ := by
  obtain ⟨⟨l⟩⟩ := s
  cases l with
  | nil => rfl
  | cons a r => exact absurd h (by show ¬ (r.length + 1 = 0); omega)
theorem nonE {s : ByteArray} (h : s.size ≠ 0) : s.toList.isEmpty = false := by
  rw [toListS]
  obtain ⟨⟨l⟩⟩ := s
  cases l with
  | nil => exact absurd rfl h
  | cons a r => rfl
theorem step_id {id : ByteArray} {fr tt : ByteArray} {lv : Int} {e : Ent} (h1 : fr.size ≠ 0) (h2 : ¬ (tt.size = 0 ∧ e.1 ≤ lv)) : stepT id ⟨fr, tt, lv⟩ e = ⟨fr, tt, lv⟩ := by
  unfold stepT
  rw [if_neg (by rintro ⟨h, _⟩; exact h1 h), if_neg (by rintro ⟨_, h⟩; exact h2 h)]
theorem step_to {id : ByteArray} {fr tt : ByteArray} {lv : Int} {e : Ent} (h1 : fr.size ≠ 0) (h2 : tt.size = 0) (h3 : e.1 ≤ lv) : stepT id ⟨fr, tt, lv⟩ e = ⟨fr, etag e, lv⟩ := by
  unfold stepT
  rw [if_neg (by rintro ⟨h, _⟩; exact h1 h), if_pos ⟨h1, h2, h3⟩]
theorem step_fr {id : ByteArray} {fr tt : ByteArray} {lv : Int} {e : Ent} (h1 : fr.size = 0) (h2 : (e.2.1.toList == id.toList) = true) : stepT id ⟨fr, tt, lv⟩ e = ⟨etag e, tt, e.1⟩ := by
  unfold stepT
  rw [if_pos ⟨h1, h2⟩]
theorem step_no {id : ByteArray} {fr tt : ByteArray} {lv : Int} {e : Ent} (h1 : fr.size = 0) (h2 : (e.2.1.toList == id.toList) = false) : stepT id ⟨fr, tt, lv⟩ e = ⟨fr, tt, lv⟩ := by
  unfold stepT
  rw [if_neg (by rintro ⟨_, h⟩; rw [h2] at h; cases h), if_neg (by rintro ⟨h, _⟩; exact h h1)]
theorem out_none_inv {rs : ByteArray} {rb : Bool} (h : outO none = .tuple #[.string rs, .bool rb]) : rs = ⟨#[]⟩ ∧ rb = false := by
  unfold outO at h
  injection h with h
  injection h with h
  injection h with h1 h2
  injection h1 with h1
  injection h2 with h2
  injection h2 with h2
  exact ⟨h1.symm, h2.symm⟩
theorem out_some_inv {g rs : ByteArray} {rb : Bool} (h : outO (some g) = .tuple #[.string rs, .bool rb]) : rs = g ∧ rb = true := by
  unfold outO at h
  injection h with h
  injection h with h
  injection h with h1 h2
  injection h1 with h1
  injection h2 with h2
  injection h2 with h2
  exact ⟨h1.symm, h2.symm⟩
set_option maxRecDepth 100000 in
set_option maxHeartbeats 4000000 in
theorem pageSections_any (html s p id : ByteArray) (A : Option Addr) (n c : Nat) (x : Int) (r q : Value) (l : List Ent) (w : World) (hv : VarsP w) (hh : html.size ≤ 1048576)
    (hn : n = l.length) (hnm : n ≤ 1048576) (hnc : n ≤ c) (hcm : c ≤ maxLen) (hE : EntsAt w w.heap.size A l) (hr : ∃ A n c, r = .slice A n c) (hq : ∃ A n c, q = .slice A n c) :
    Calls Tryd.prog 5 #[.agg (cbox html s p A n c x r q), .string id] w fun e w' => e = .returned (.bool true) ∧ Below w.heap.size w w' := by
  have hsec := fun wX (hX : Below w.heap.size w wX) => section_any html s p id A n c x r q l wX (hv.below hX) hh hn hnm hnc hcm ((hE.below hX).more hX.size) hr hq
  obtain ⟨A1, n1, c1, rfl⟩ := hr
  obtain ⟨A2, n2, c2, rfl⟩ := hq
  unfold cbox at hsec ⊢
  obtain ⟨rs, rb, hro⟩ := out_form (sectO html id l)
  rw [hro] at hsec
  have HRO := Lib.hid hro; clear hro
  have HSEC := Lib.hid hsec; clear hsec
  obtain ⟨W1, hW1⟩ : ∃ W1, w.alloc (.cells #[.string html, .string s, .string p, .slice A n c, .int .i64 x, .slice A1 n1 c1, .slice A2 n2 c2] 36) = W1 := ⟨_, rfl⟩
  have hb01 : Below w.heap.size w W1 := by rw [← hW1]; exact (Below.refl _ _).alloc (Nat.le_refl _) _
  have hs1 : W1.heap.size = w.heap.size + 1 := by rw [← hW1]; simp
  have hcell : W1.cell? ⟨w.heap.size, 0, none⟩ = some (.string html) ∧ W1.cell? ⟨w.heap.size, 1, none⟩ = some (.string s) ∧ W1.cell? ⟨w.heap.size, 2, none⟩ = some (.string p) ∧ W1.cell? ⟨w.heap.size, 3, none⟩ = some (.slice A n c) ∧ W1.cell? ⟨w.heap.size, 4, none⟩ = some (.int .i64 x) ∧ W1.cell? ⟨w.heap.size, 5, none⟩ = some (.slice A1 n1 c1) ∧ W1.cell? ⟨w.heap.size, 6, none⟩ = some (.slice A2 n2 c2) := by
    rw [← hW1]
    exact ⟨cell_of_row _ _ _ _ _ _ (heap_alloc_new w _), cell_of_row _ _ _ _ _ _ (heap_alloc_new w _), cell_of_row _ _ _ _ _ _ (heap_alloc_new w _), cell_of_row _ _ _ _ _ _ (heap_alloc_new w _), cell_of_row _ _ _ _ _ _ (heap_alloc_new w _), cell_of_row _ _ _ _ _ _ (heap_alloc_new w _), cell_of_row _ _ _ _ _ _ (heap_alloc_new w _)⟩
  have HY := Lib.hid hcell
  have HB := Lib.hid hb01
  have HN := Lib.hid hn
  have HE := Lib.hid hE
  have HV := Lib.hid hv
  obtain ⟨y0, y1, y2, y3, y4, y5, y6⟩ := hcell
  clear hn hE hv
  go_enter Tryd.func5, Tryd.ntmps5
  go_wp2_with fail
  refine (HSEC.out _ HB.out).mono ?_
  rintro e w2 ⟨rfl, hb2⟩
  have hb12 : Below (w.heap.size + 1) W1 w2 := by rw [← hs1]; exact hb2
  have y0 := (hb12.cell (p := ⟨w.heap.size, 0, none⟩) (by show w.heap.size < _; omega)).trans HY.out.1
  have y3 := (hb12.cell (p := ⟨w.heap.size, 3, none⟩) (by show w.heap.size < _; omega)).trans HY.out.2.2.2.1
  have HB12 := Lib.hid hb12
  clear hb2 hb12
  go_wp2_with fail
  go_loopw [7, 8, 9, 25] (fun f t lv i wr => ∃ (k : Nat) (st : Sst), k ≤ n ∧ i = .int .i64 k ∧ f = .string st.fr ∧ t = .string st.to ∧ lv = .int .i64 st.lv ∧ (l.take k).foldl (stepT id) st0 = st ∧ Below (w.heap.size + 1) W1 wr) (fun _ _ _ i _ => n - (intOf i).toNat)
  case atStart => exact ⟨0, st0, Nat.zero_le _, rfl, rfl, rfl, rfl, rfl, HB12.out⟩
  case round =>
    obtain ⟨k, ⟨fr, tt, slv⟩, hk, rfl, rfl, rfl, rfl, hst, hbw⟩ := hrel
    have hwr := hbw.size
    have hwlt : w.heap.size < wr.heap.size := by omega
    have y0 := (hbw.cell (p := ⟨w.heap.size, 0, none⟩) (by show w.heap.size < _; omega)).trans HY.out.1
    have hb0w : Below w.heap.size w wr := HB.out.trans (hbw.mono (by omega))
    have HST := Lib.hid hst; clear hst
    by_cases hlt : k < n
    · obtain ⟨⟨lv2, id2, t2⟩, hp⟩ : ∃ p, l[k]? = some p := ⟨_, List.getElem?_eq_getElem (by rw [← HN.out]; exact hlt)⟩
      obtain ⟨⟨b, off, rfl, hb, x0, x1, x2⟩, l0, l1, hid2⟩ := HE.out k lv2 id2 t2 hp
      have g0 := (hb0w.cell (p := ⟨b, off + k * 3, none⟩) hb).trans x0
      have g1 := (hb0w.cell (p := ⟨b, off + k * 3 + 1, none⟩) hb).trans x1
      have g2 := (hb0w.cell (p := ⟨b, off + k * 3 + 2, none⟩) hb).trans x2
      clear x0 x1 x2
      have hsn := fold_snoc (id := id) hp
      rw [HST.out] at hsn
      have HSN := Lib.hid hsn; clear hsn hp
      have HW := Lib.hid (And.intro hb0w (And.intro hbw hwr))
      have hblt : b < wr.heap.size := by have := hb0w.size; omega
      obtain ⟨W2, hW2⟩ : ∃ W2, wr.alloc (ebox lv2 id2 t2) = W2 := ⟨_, rfl⟩
      have hb2 : Below wr.heap.size wr W2 := by rw [← hW2]; exact (Below.refl _ _).alloc (Nat.le_refl _) _
      have hs2 : W2.heap.size = wr.heap.size + 1 := by rw [← hW2]; simp
      have hbx2 : EBox W2 wr.heap.size lv2 id2 t2 := by rw [← hW2]; exact EBox.new wr lv2 id2 t2
      obtain ⟨z0, z1, z2⟩ := hbx2
      have hbW2 : Below w.heap.size w W2 := hb0w.trans (hb2.mono hb0w.size)
      have hbX2 : Below (w.heap.size + 1) W1 W2 := hbw.trans (hb2.mono (by omega))
      have HT := Lib.hid (fun wX (hX : Below (wr.heap.size + 1) W2 wX) => (told_any lv2 wX (HV.out.below (hbW2.trans (hX.mono (by omega)))) l0 l1).mono (fun e w' h => (⟨h.1, hX.trans (h.2.mono (by have := hX.size; omega)), let g := (EBox.mk z0 z1 z2).keep (hX.trans (h.2.mono (by have := hX.size; omega))) (by omega); ⟨g.x0, g.x1⟩⟩ : _ ∧ Below (wr.heap.size + 1) W2 w' ∧ w'.cell? ⟨wr.heap.size, 0, none⟩ = some (.int .i64 lv2) ∧ w'.cell? ⟨wr.heap.size, 1, none⟩ = some (.string id2))))
      have HBW2 := Lib.hid hbX2
      have hz := itoaT_size lv2 l0 l1
      obtain ⟨it, hit⟩ : ∃ it, itoaT lv2 = it := ⟨_, rfl⟩
      have hR : etag (lv2, id2, t2) = (((ByteArray.mk #[60, 104] ++ it) ++ ByteArray.mk #[32, 105, 100, 61, 34]) ++ id2) ++ ByteArray.mk #[34, 62] := by rw [← hit]; rfl
      rw [hit] at HT hz
      have p1 := fun wx => run_string_add_sum (P := Tryd.prog) (w := wx) (ByteArray.mk #[60, 104]) it (by show 2 + it.size ≤ _; omega)
      have s1 : (ByteArray.mk #[60, 104] ++ it).size = 2 + it.size := ByteArray.size_append
      generalize (ByteArray.mk #[60, 104] ++ it) = t1 at p1 s1 hR
      have p2 := fun wx => run_string_add_sum (P := Tryd.prog) (w := wx) t1 (ByteArray.mk #[32, 105, 100, 61, 34]) (by show t1.size + 5 ≤ _; omega)
      have s2 : (t1 ++ ByteArray.mk #[32, 105, 100, 61, 34]).size = t1.size + 5 := ByteArray.size_append
      generalize (t1 ++ ByteArray.mk #[32, 105, 100, 61, 34]) = t2' at p2 s2 hR
      have p3 := fun wx => run_string_add_sum (P := Tryd.prog) (w := wx) t2' id2 (by omega)
      have s3 : (t2' ++ id2).size = t2'.size + id2.size := ByteArray.size_append
      generalize (t2' ++ id2) = t3 at p3 s3 hR
      have p4 := fun wx => run_string_add_sum (P := Tryd.prog) (w := wx) t3 (ByteArray.mk #[34, 62]) (by show t3.size + 2 ≤ _; omega)
      generalize t3 ++ ByteArray.mk #[34, 62] = t4 at p4 hR
      have HR := Lib.hid hR
      unfold ebox at hW2
      clear s1 s2 s3 hz hit hR hb2 hs2 hbW2 hbX2
      go_wp2_with fail
      try rw [hW2]
      go_region_held3 (fun w' => Below (wr.heap.size + 1) W2 w' ∧ w'.cell? ⟨wr.heap.size, 0, none⟩ = some (.int .i64 lv2) ∧ w'.cell? ⟨wr.heap.size, 1, none⟩ = some (.string id2))
        (first | exact ⟨(Below.refl _ _).drew, z0, z1⟩ | exact ⟨hb5, s0, s1⟩)
        (first | (go_at_call 11; with_reducible refine Calls.mono (HT.out _ (Below.refl _ _).drew) ?_; rintro e w5 ⟨rfl, hb5, s0, s1⟩))
      have hbE : Below (w.heap.size + 1) W1 w5 := HBW2.out.trans (hb5.mono (by omega))
      have HBE := Lib.hid hbE
      clear hbE
      by_cases hf : fr.size = 0
      · obtain rfl := size0S hf
        cases heq : (id2.toList == id.toList) with
        | true =>
          have HS2 := Lib.hid (HSN.out.trans (step_fr rfl heq))
          go_wp2_with fail
          go_quiet (fail)
          go_wp2_with fail
          go_roundw
          case rel => exact ⟨k + 1, _, by omega, by go_num, by rw [HR.out], rfl, rfl, HS2.out, by first | exact HBE.out.drew | exact below_drewN HBE.out _⟩
          case measure => simp [intOf]; omega
        | false =>
          have HS2 := Lib.hid (HSN.out.trans (step_no rfl heq))
          go_wp2_with fail
          go_roundw
          case rel => exact ⟨k + 1, _, by omega, by go_num, rfl, rfl, rfl, HS2.out, HBE.out⟩
          case measure => simp [intOf]; omega
      · have ne1 := nonE hf
        by_cases ht : tt.size = 0
        · obtain rfl := size0S ht
          by_cases hle : lv2 ≤ slv
          · have HS2 := Lib.hid (HSN.out.trans (step_to hf rfl hle))
            clear hf ht
            go_wp2_with fail
            go_roundw
            case rel => exact ⟨k + 1, _, by omega, by go_num, rfl, by rw [HR.out], rfl, HS2.out, HBE.out⟩
            case measure => simp [intOf]; omega
          · have HS2 := Lib.hid (HSN.out.trans (step_id hf (by rintro ⟨_, h⟩; exact hle h)))
            clear hf ht
            go_wp2_with fail
            go_roundw
            case rel => exact ⟨k + 1, _, by omega, by go_num, rfl, rfl, rfl, HS2.out, HBE.out⟩
            case measure => simp [intOf]; omega
        · have HS2 := Lib.hid (HSN.out.trans (step_id hf (by rintro ⟨h, _⟩; exact ht h)))
          have ne2 := nonE ht
          clear hf ht
          go_wp2_with fail
          go_roundw
          case rel => exact ⟨k + 1, _, by omega, by go_num, rfl, rfl, rfl, HS2.out, HBE.out⟩
          case measure => simp [intOf]; omega
    · have hkn : k = l.length := by have := HN.out; omega
      have hfin : outO (lawO html ⟨fr, tt, slv⟩) = .tuple #[.string rs, .bool rb] := by rw [← HST.out, hkn, List.take_length, law_eq]; exact HRO.out
      clear hkn
      have hI := index_any html fr wr (HV.out.below hb0w) hh
      have hroom := idx_room html fr
      by_cases hf : fr.size = 0
      · obtain rfl := size0S hf
        obtain ⟨rfl, rfl⟩ := out_none_inv hfin
        have HI := Lib.hid hI
        clear hI hroom hf hfin
        dsimp only
        go_wp2_with fail
        refine HI.out.mono ?_
        rintro e w3 ⟨rfl, rfl⟩
        go_wp2_with fail
        go_ret
        exact ⟨rfl, hb0w⟩
      · have ne1 := nonE hf
        have hl : lawO html ⟨fr, tt, slv⟩ = (restO html fr).bind fun h => lawEnd h ⟨fr, tt, slv⟩ := by unfold lawO; rw [if_neg hf]
        rw [hl] at hfin
        clear hl hf
        obtain ⟨v, hx⟩ : ∃ v, idx html fr = v := ⟨_, rfl⟩
        rw [hx] at hI hroom
        have HI := Lib.hid hI
        clear hI
        dsimp only
        by_cases hneg : v < 0
        · rw [rest_none (by omega)] at hfin
          obtain ⟨rfl, rfl⟩ := out_none_inv hfin
          clear hfin hroom hx
          go_wp2_with fail
          refine HI.out.mono ?_
          rintro e w3 ⟨rfl, rfl⟩
          go_wp2_with fail
          go_ret
          exact ⟨rfl, hb0w⟩
        · obtain ⟨a, rfl⟩ : ∃ a : Nat, v = a := ⟨v.toNat, by omega⟩
          rw [rest_some hx] at hfin
          have hfin : outO (lawEnd (html.extract a html.size) ⟨fr, tt, slv⟩) = .tuple #[.string rs, .bool rb] := hfin
          have hrm := hroom (by omega)
          obtain ⟨h, hext⟩ : ∃ h, html.extract a html.size = h := ⟨_, rfl⟩
          have hhz : h.size = html.size - a := by rw [← hext]; exact ext_size _ _ (by omega)
          rw [hext] at hfin
          have i0 : decide ((a : Int) < 0) = false := decide_eq_false (by omega)
          have i1 : (0 : Int) ≤ (a : Int) := by omega
          have i2 : (a : Int) ≤ (html.size : Int) := by omega
          have hfirst : fr.size ≤ h.size := by omega
          have HH := Lib.hid (And.intro hfirst (show h.size ≤ 1048576 by omega))
          have HHZ := Lib.hid hhz
          clear hroom hx hrm hhz
          by_cases ht : tt.size = 0
          · obtain rfl := size0S ht
            have hl : lawEnd h ⟨fr, ⟨#[]⟩, slv⟩ = some h := if_pos rfl
            rw [hl] at hfin
            obtain ⟨rfl, rfl⟩ := out_some_inv hfin
            clear hfin ht hl
            have hq : (rs.toList == rs.toList) = true := by simp
            go_wp2_with fail
            refine HI.out.mono ?_
            rintro e w3 ⟨rfl, rfl⟩
            go_wp2_with fail
            go_ret
            exact ⟨rfl, hb0w⟩
          · have ne2 := nonE ht
            have hl : lawEnd h ⟨fr, tt, slv⟩ = cutO h fr tt := if_neg ht
            rw [hl] at hfin
            clear hl ht
            have hf1 : (0 : Int) ≤ (fr.size : Int) := by omega
            have hf2 : (fr.size : Int) ≤ (h.size : Int) := by omega
            have hsz := ext_size h fr.size hfirst
            obtain ⟨sb, hsb⟩ : ∃ sb, h.extract fr.size h.size = sb := ⟨_, rfl⟩
            rw [hsb] at hsz
            have HI2 := Lib.hid (index_any sb tt wr (HV.out.below hb0w) (by have := HH.out.2; omega))
            obtain ⟨y, hy⟩ : ∃ y, idx sb tt = y := ⟨_, rfl⟩
            have hyr := idx_room sb tt
            rw [hy] at HI2 hyr
            by_cases hy0 : y < 0
            · rw [cut_none (by rw [hsb, hy]; exact hy0)] at hfin
              obtain ⟨rfl, rfl⟩ := out_none_inv hfin
              clear hfin hyr hy hsz hfirst
              go_wp2_with fail
              refine HI.out.mono ?_
              rintro e w3 ⟨rfl, rfl⟩
              go_wp2_with fail
              refine HI2.out.mono ?_
              rintro e w3 ⟨rfl, rfl⟩
              go_wp2_with fail
              go_ret
              exact ⟨rfl, hb0w⟩
            · obtain ⟨d, rfl⟩ : ∃ d : Nat, y = d := ⟨y.toNat, by omega⟩
              rw [cut_some (by rw [hsb, hy])] at hfin
              obtain ⟨rfl, rfl⟩ := out_some_inv hfin
              have hd1 := hyr (by omega)
              have hd2 : fr.size + d ≤ h.size := by omega
              have hd3 := HH.out.2
              have hd4 : (0 : Int) ≤ (fr.size : Int) + (d : Int) := by omega
              have hd5 : (fr.size : Int) + (d : Int) ≤ (h.size : Int) := by omega
              have j0 : decide ((d : Int) < 0) = false := decide_eq_false (by omega)
              have hq : ((h.extract 0 (fr.size + d)).toList == (h.extract 0 (fr.size + d)).toList) = true := by simp
              clear hfin hyr hy hsz hfirst hd1
              go_wp2_with fail
              refine HI.out.mono ?_
              rintro e w3 ⟨rfl, rfl⟩
              go_wp2_with fail
              refine HI2.out.mono ?_
              rintro e w3 ⟨rfl, rfl⟩
              go_wp2_with fail
              go_ret
              exact ⟨rfl, hb0w⟩
end Go.Proofs.YtfmmpfoecjehiaaDoor
