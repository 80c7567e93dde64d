/- DERIVED. asset.ReadImage of an image that was written. Condition: the library's variable MaxLen is as the program's text lays it. -/
import Derived.Test.YthlkibadiiiohaaDoorImgRdA
namespace Go.Proofs.YthlkibadiiiohaaDoor
open Go.RowKit
set_option linter.unusedVariables false
set_option linter.unusedSimpArgs false
theorem add_at (g j : Nat) : (⟨g, 0, none⟩ : Addr).add j = ⟨g, j, none⟩ := by unfold Addr.add; split <;> simp_all
theorem own_ints {w : World} {B g cap n : Nat} {zs : List Int} (h : w.ownsRow B 3 1 (.slice (some ⟨g, 0, none⟩) n cap) n (lv zs)) (hz : zs.length = n) : IntsAt w w.heap.size (some ⟨g, 0, none⟩) zs := fun j z hj => by
  have hjn : j < n := by have := (List.getElem?_eq_some_iff.1 hj).1; omega
  refine ⟨_, rfl, (h.lt g rfl).2, ?_⟩
  rw [add_at, h.cellAt j (by omega)]
  unfold lv
  rw [List.getElem?_map, hj]
  rfl
theorem own_low {w : World} {B B' n : Nat} {e : TypeId} {v : Value} {l : List Value} (h : w.ownsRow B e 1 v n l) (hB : B' ≤ B) : w.ownsRow B' e 1 v n l := by
  rcases h with ⟨h0, h1⟩
  refine ⟨h0, ?_⟩
  rcases h1 with h1 | ⟨g, cap, cur, hv, hb, hr⟩
  · exact .inl h1
  · exact .inr ⟨g, cap, cur, hv, by omega, hr⟩
set_option maxRecDepth 100000 in
set_option maxHeartbeats 1600000 in
theorem readI_any (W H : Nat) (w1 : 1 ≤ W) (w2 : W ≤ 64) (h1 : 1 ≤ H) (h2 : H ≤ 64) (zs : List Int) (hz : zs.length = W * H) (hlv : ∀ (k : Nat) (z : Int), zs[k]? = some z → 0 ≤ z ∧ z ≤ 15) (hE : imgE W H zs = 0) (w : World) (hm : MaxT w) :
    Calls Tryd.prog 12 #[.string ⟨(outL W H zs).toArray⟩] w fun e w' => ∃ g cap, e = .returned (.tuple #[.agg #[.int .i64 (W : Int), .int .i64 (H : Int), .slice (some ⟨g, 0, none⟩) zs.length cap], .int .i64 0]) ∧ w'.ownsRow (w.heap.size + 1) 3 1 (.slice (some ⟨g, 0, none⟩) zs.length cap) zs.length (lv zs) ∧ Below w.heap.size w w' := by
  have hWH : W * H ≤ 4096 := by
    calc W * H ≤ 64 * 64 := Nat.mul_le_mul w2 h2
      _ = 4096 := rfl
  have hWH1 : 1 ≤ W * H := Nat.mul_le_mul w1 h1
  have hb0 := (Below.refl w.heap.size w).alloc (Nat.le_refl _) (.cells #[.int .i64 0, .int .i64 0, .slice none 0 0] 33)
  have hsz : (⟨(outL W H zs).toArray⟩ : ByteArray).size ≤ 20000 := by
    rw [mk_size]
    unfold outL
    have a1 := (okNum_in (dd_ok W (by omega) (by omega))).2.1
    have a2 := (okNum_in (dd_ok H (by omega) (by omega))).2.1
    have a3 := bl_len W zs zs.length
    have : imgL.length = 6 := rfl
    simp only [List.length_append, List.length_cons]
    omega
  have hsi : ¬ (20000 : Int) < ((⟨(outL W H zs).toArray⟩ : ByteArray).size : Int) := by omega
  have K1 := Lib.hid (fun wX (hX : Below w.heap.size w wX) => readImg_any W H w1 w2 h1 h2 zs hz hlv wX (hm.below hX))
  generalize (⟨(outL W H zs).toArray⟩ : ByteArray) = s at K1 hsi hsz ⊢
  have HB0 := Lib.hid hb0
  have hq0 := heap_alloc_new w (.cells #[.int .i64 0, .int .i64 0, .slice none 0 0] 33)
  have hn4 : zs.length ≤ 4096 := by omega
  have hn1 : 0 < zs.length := by omega
  have HE := Lib.hid hE
  clear hb0 hz hlv hWH hWH1 hE
  go_enter Tryd.func12, Tryd.ntmps12
  go_wp2_with fail
  refine (K1.out _ HB0.out).mono ?_
  rintro e wa ⟨v, rfl, hown, hba⟩
  obtain ⟨g, cap, rfl, _, _⟩ := hown.form hn1
  have hs0 : (w.alloc (.cells #[.int .i64 0, .int .i64 0, .slice none 0 0] 33)).heap.size = w.heap.size + 1 := by simp
  have hq1 := (hba.block w.heap.size (by rw [hs0]; omega)).trans hq0
  have HB1 := Lib.hid (HB0.out.trans (hba.mono HB0.out.size))
  have HO1 := Lib.hid hown
  clear hba hq0 hown
  have hgw := (HO1.out.lt g rfl).2
  have HGW := Lib.hid hgw
  clear hgw
  go_wp2_with fail
  obtain ⟨sl, hsl⟩ : ∃ sl, (Value.slice (some ⟨g, 0, none⟩) zs.length cap) = sl := ⟨_, rfl⟩
  have hq4 := heap_alloc_new wa (.cells #[.int .i64 (W : Int), .int .i64 (H : Int), .slice (some ⟨g, 0, none⟩) zs.length cap] 33)
  have hlt1 := (Array.getElem?_eq_some_iff.1 hq1).1
  have hq2 : (wa.alloc (.cells #[.int .i64 (W : Int), .int .i64 (H : Int), .slice (some ⟨g, 0, none⟩) zs.length cap] 33)).heap[w.heap.size]? = _ := (Below.heap_alloc _ _ _ hlt1).trans hq1
  have HB2 := Lib.hid (HB1.out.alloc HB1.out.size (.cells #[.int .i64 (W : Int), .int .i64 (H : Int), .slice (some ⟨g, 0, none⟩) zs.length cap] 33))
  have hO2 := HO1.out.alloc (.cells #[.int .i64 (W : Int), .int .i64 (H : Int), .slice (some ⟨g, 0, none⟩) zs.length cap] 33)
  have HO2 := Lib.hid hO2
  have hI := own_ints hO2 rfl
  have hchk := chkImg_any (W : Int) (H : Int) (some ⟨g, 0, none⟩) zs.length cap zs _ rfl (by unfold maxLen; omega) hI
  rw [HE.out] at hchk
  have hs2 : (wa.alloc (.cells #[.int .i64 (W : Int), .int .i64 (H : Int), .slice (some ⟨g, 0, none⟩) zs.length cap] 33)).heap.size = wa.heap.size + 1 := by simp
  generalize wa.alloc (.cells #[.int .i64 (W : Int), .int .i64 (H : Int), .slice (some ⟨g, 0, none⟩) zs.length cap] 33) = wm at hq4 hq2 HB2 HO2 hchk hs2 ⊢
  have HK := Lib.hid hchk
  clear hI hO2 hchk hq1 hsl sl
  refine HK.out.mono ?_
  rintro e wn ⟨rfl, hbn⟩
  have hq5 := (hbn.block wa.heap.size (by rw [hs2]; omega)).trans hq4
  have hq3 := (hbn.block w.heap.size (by rw [hs2]; omega)).trans hq2
  have HB3 := Lib.hid (HB2.out.trans (hbn.mono HB2.out.size))
  have HO3 := Lib.hid (show wn.ownsRow (w.heap.size + 1) 3 1 (.slice (some ⟨g, 0, none⟩) zs.length cap) zs.length (lv zs) from (own_low HO2.out (by simp)).kept (row := none) ⟨hbn.os, hbn.tape, hbn.output, hbn.size, fun q hq _ => hbn.block q hq⟩ (.inr (by simp [Value.ownBlock])))
  clear hbn hq4 hq2 hs2
  obtain ⟨y0, y1, y2, y3, y4, y5⟩ := imgCells hq5
  obtain ⟨x0, x1, x2, x3, x4, x5⟩ := imgCells hq3
  have HQ3 := Lib.hid hq3
  clear hq3 hq5
  go_wp2_with fail
  have hf := imgSet2 (imgSet1 (imgSet0 HQ3.out (.int .i64 (W : Int))) (.int .i64 (H : Int))) (.slice (some ⟨g, 0, none⟩) zs.length cap)
  have hof := own_setB (j := 2) (x := .slice (some ⟨g, 0, none⟩) zs.length cap) (own_setB (j := 1) (x := .int .i64 (H : Int)) (own_setB (j := 0) (x := .int .i64 (W : Int)) HO3.out (Nat.lt_succ_self _)) (Nat.lt_succ_self _)) (Nat.lt_succ_self _)
  have hbf := ((HB3.out.setCell (p := ⟨w.heap.size, 0, none⟩) (Nat.le_refl _) (.int .i64 (W : Int))).setCell (p := ⟨w.heap.size, 1, none⟩) (Nat.le_refl _) (.int .i64 (H : Int))).setCell (p := ⟨w.heap.size, 2, none⟩) (Nat.le_refl _) (.slice (some ⟨g, 0, none⟩) zs.length cap)
  obtain ⟨c0, c1, c2, _, _, _⟩ := imgCells hf
  exact bodyPost_ret (v := .tuple #[.agg #[.int .i64 (W : Int), .int .i64 (H : Int), .slice (some ⟨g, 0, none⟩) zs.length cap], .int .i64 0]) (by simp [results, Tryd.results12, go_sem, c0, c1, c2]; try rfl) rfl ⟨_, _, rfl, hof, hbf⟩
end Go.Proofs.YthlkibadiiiohaaDoor
