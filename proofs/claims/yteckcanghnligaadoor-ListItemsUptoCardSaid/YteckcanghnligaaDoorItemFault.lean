/- DERIVED. What the reference's ItemFault returns for a value. Condition: at most 2^40 values and letters. -/
import Derived.Test.YteckcanghnligaaDoorSettled
import Derived.Test.YteckcanghnligaaDoorConfEachR
namespace Go.Proofs.YteckcanghnligaaDoor
set_option linter.unusedVariables false
open Go.RowKit
set_option maxRecDepth 100000 in
set_option maxHeartbeats 800000 in
theorem itemFault_any (k : Int) (bo : Bool) (i : Int) (t : ByteArray) (A1 : Option Addr) (n1 c1 : Nat) (A2 : Option Addr) (n2 c2 : Nat) (items : Vals) (keys : List ByteArray) (w : World)
    (hv : VOk w w.heap.size k i t A1 n1 c1 A2 n2 c2 items keys) (hbig : items.nodes ≤ 1099511627776) (hl : items.letters ≤ 1099511627776) (hn2 : n2 ≤ 1099511627776) :
    Calls Tryd.prog 5 #[.agg #[.int .i64 k, .bool bo, .int .i64 i, .string t, .slice A1 n1 c1, .slice A2 n2 c2]] w
      fun e w' => e = .returned (.int .i64 (itemErr k bo i t items keys)) ∧ Below w.heap.size w w' := by
  have H1 := Lib.hid (fun wX (hX : Below w.heap.size w wX) => valuesOf_any items.nodes k bo i t A1 n1 c1 A2 n2 c2 items keys wX ((hv.below hX).more hX.size) (Nat.le_refl _) hbig)
  have H2 := Lib.hid (fun wX (hX : Below w.heap.size w wX) => levelsR_any items.nodes k bo i t A1 n1 c1 A2 n2 c2 items keys wX ((hv.below hX).more hX.size) (Nat.le_refl _) hbig)
  have H3 := Lib.hid (fun wX (hX : Below w.heap.size w wX) => settled_any wX.heap.size items.nodes k bo i t A1 n1 c1 A2 n2 c2 items keys wX (Nat.le_refl _) ((hv.below hX).more hX.size) (Nat.le_refl _) hbig)
  have H4 := Lib.hid (fun (wX w' : World) (hX : Below w.heap.size w wX) (hb : Below wX.heap.size wX w') (A' : Option Addr) (c' : Nat) (g1 : n1 ≤ c') (g2 : c' ≤ maxLen) (g3 : items.settle.AtP w' (PB wX.heap.size wX.heap.size w'.heap.size) A' n1) =>
    eachValueR_any items.settle.nodes (sk k) bo i t A' n1 c' A2 n2 c2 items.settle keys w'
      ⟨g1, g2, hv.nc2, hv.cm2, sk_wf hv.kwf, hv.iwf, hv.ts, (g3.keep (fun _ _ => rfl) (fun b hb' => by unfold PB at hb'; have := hb.size; omega)).to_at, ((hv.ks.below hX).below (hb.mono hX.size)).more (Nat.le_trans hX.size hb.size)⟩
      (Nat.le_refl _) (by rw [Vals.settle_nodes]; exact hbig) (by rw [Vals.settle_letters]; exact hl) hn2)
  have hbi : ((items.nodes + 1 : Nat) : Int) ≤ 1099511627777 := by omega
  have hll := Vals.levels_le items
  clear hv
  have HB := Lib.hid (fun o => (Below.refl w.heap.size w).alloc (Nat.le_refl _) o)
  have HX := Lib.hid (fun (w1 : World) (B : Nat) (hb : Below B (w.alloc (boxOf k bo i t A1 n1 c1 A2 n2 c2)) w1) (hB : w.heap.size < B) => box6 hb hB)
  unfold boxOf at HX
  obtain ⟨N, hN⟩ : ∃ N, items.nodes + 1 = N := ⟨_, rfl⟩
  obtain ⟨L, hL⟩ : ∃ L, items.levels + 1 = L := ⟨_, rfl⟩
  have hLb : L ≤ N := by omega
  have hNb : N ≤ 1099511627777 := by omega
  rw [hN] at H1
  rw [hL] at H2
  have HN := Lib.hid hN; clear hN
  have HL := Lib.hid hL; clear hL hll hbi hbig
  go_enter Tryd.func5, Tryd.ntmps5
  go_wp2_with fail
  refine (H1.out _ (HB.out _)).mono ?_
  rintro e w1 ⟨rfl, hb1'⟩
  have hbx1 : Below (w.heap.size + 1) (w.alloc (.cells #[.int .i64 k, .bool bo, .int .i64 i, .string t, .slice A1 n1 c1, .slice A2 n2 c2] 25)) w1 := hb1'.mono (by simp)
  clear hb1'
  obtain ⟨y0, y1, y2, y3, y4, y5⟩ := HX.out _ _ hbx1 (by omega)
  obtain ⟨hb1, hs1⟩ := below_box hbx1
  have HX1 := Lib.hid hbx1; clear hbx1
  by_cases h1 : (5000 : Int) < (N : Int)
  · go_wp2_with fail
    go_ret
    exact ⟨retI (by unfold itemErr; rw [HN.out, if_pos (by omega)]), hb1⟩
  · go_wp2_with fail
    refine (H2.out w1 hb1).mono ?_
    rintro e w2 ⟨rfl, hb2⟩
    have hbx2 := HX1.out.trans (hb2.mono hs1)
    clear y0 y1 y2 y3 y4 y5
    obtain ⟨y0, y1, y2, y3, y4, y5⟩ := HX.out _ _ hbx2 (by omega)
    have hb3 := (below_box hbx2).1
    clear hbx2
    by_cases h2 : (10 : Int) < (L : Int)
    · go_wp2_with fail
      go_ret
      exact ⟨retI (by unfold itemErr; rw [HN.out, HL.out, if_neg (by omega), if_pos (by omega)]), hb3⟩
    · go_wp2_with fail
      refine (H3.out w2 hb3).mono ?_
      rintro e w3 ⟨A', c', rfl, g1, g2, g3, hb4⟩
      have hcall := H4.out w2 w3 hb3 hb4 A' c' g1 g2 g3
      have HC := Lib.hid hcall
      have hb5 := hb3.trans (hb4.mono hb3.size)
      clear hcall g1 g2 g3 hb4
      go_wp2_with fail
      refine HC.out.mono ?_
      rintro e w4 ⟨rfl, hb6⟩
      go_wp2_with fail
      go_ret
      exact ⟨retI (by unfold itemErr; rw [HN.out, HL.out, if_neg (by omega), if_neg (by omega)]), hb5.trans (hb6.mono hb5.size)⟩
end Go.Proofs.YteckcanghnligaaDoor
