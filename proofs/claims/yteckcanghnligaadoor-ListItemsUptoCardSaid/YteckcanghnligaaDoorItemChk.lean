/- DERIVED. What list.CheckItem returns for a value. Condition: at most 2^40 values and letters. -/
import Derived.Test.YteckcanghnligaaDoorItemCount
namespace Go.Proofs.YteckcanghnligaaDoor
set_option linter.unusedVariables false
open Go.RowKit
/-- The error of an item. -/
def itemErr (k : Int) (bo : Bool) (i : Int) (t : ByteArray) (items : Vals) (keys : List ByteArray) : Int :=
  if 5000 < items.nodes + 1 then 4 else if 10 < items.levels + 1 then 13 else oneErr leS (sk k) bo i t items.settle keys
set_option maxRecDepth 100000 in
set_option maxHeartbeats 800000 in
theorem lNested_any (k : Int) (bo : Bool) (i : Int) (t : ByteArray) (A1 : Option Addr) (n1 c1 : Nat) (A2 : Option Addr) (n2 c2 : Nat) (items : Vals) (keys : List ByteArray) (w : World)
    (hv : VOk w w.heap.size k i t A1 n1 c1 A2 n2 c2 items keys) (hbig : items.nodes ≤ 1099511627776) (hl : items.letters ≤ 1099511627776) (hn2 : n2 ≤ 1099511627776) :
    Calls Tryd.prog 6 #[.agg #[.int .i64 k, .bool bo, .int .i64 i, .string t, .slice A1 n1 c1, .slice A2 n2 c2], .func (.func 7) #[] #[], .int .i64 5000, .int .i64 10, .func (.func 8) #[] #[]] w
      fun e w' => e = .returned (.int .i64 (itemErr k bo i t items keys)) ∧ Below w.heap.size w w' := by
  have H1 := Lib.hid (fun wX (hX : Below w.heap.size w wX) => lCount_any items.nodes 5000 k bo i t A1 n1 c1 A2 n2 c2 items keys wX ((hv.below hX).more hX.size) (Nat.le_refl _) hbig (by omega) (by omega))
  have H2 := Lib.hid (fun wX (hX : Below w.heap.size w wX) => lLevels_any items.nodes k bo i t A1 n1 c1 A2 n2 c2 items keys wX ((hv.below hX).more hX.size) (Nat.le_refl _) hbig)
  have H3 := Lib.hid (fun wX (hX : Below w.heap.size w wX) => lEach_any items.nodes k bo i t A1 n1 c1 A2 n2 c2 items keys wX ((hv.below hX).more hX.size) (Nat.le_refl _) hbig hl hn2)
  have hll := Vals.levels_le items
  clear hv
  have HB := Lib.hid (fun o => (Below.refl w.heap.size w).alloc (Nat.le_refl _) o)
  have HX := Lib.hid (fun (w1 : World) (B : Nat) (hb : Below B (w.alloc (boxOf k bo i t A1 n1 c1 A2 n2 c2)) w1) (hB : w.heap.size < B) => box6 hb hB)
  unfold boxOf at HX
  obtain ⟨L, hL⟩ : ∃ L, items.levels + 1 = L := ⟨_, rfl⟩
  have hLb : L ≤ 1099511627777 := by omega
  rw [hL] at H2
  have HL := Lib.hid hL; clear hL hll hbig
  go_enter Tryd.func6, Tryd.ntmps6
  go_wp2_with fail
  refine (H1.out _ (HB.out _)).mono ?_
  rintro e w1 ⟨⟨r, rfl, g1, g2, g3⟩, hb1'⟩
  have hbx1 : Below (w.heap.size + 1) (w.alloc (.cells #[.int .i64 k, .bool bo, .int .i64 i, .string t, .slice A1 n1 c1, .slice A2 n2 c2] 25)) w1 := hb1'.mono (by simp)
  clear hb1'
  obtain ⟨y0, y1, y2, y3, y4, y5⟩ := HX.out _ _ hbx1 (by omega)
  obtain ⟨hb1, hs1⟩ := below_box hbx1
  have HX1 := Lib.hid hbx1; clear hbx1
  have hcase : 5000 < (r : Int) ↔ 5000 < items.nodes + 1 := by
    refine ⟨fun h => by have := g2 h; omega, fun h => ?_⟩
    rcases Int.lt_or_le 5000 (r : Int) with h2 | h2
    · exact h2
    · have := g1 h2
      omega
  have HCA := Lib.hid hcase; clear hcase g1 g2
  by_cases h1 : 5000 < (r : Int)
  · go_wp2_with fail
    go_ret
    exact ⟨retI (by unfold itemErr; rw [if_pos (HCA.out.1 h1)]), hb1⟩
  · have hno : ¬ 5000 < items.nodes + 1 := fun h => h1 (HCA.out.2 h)
    have HNO := Lib.hid hno; clear hno
    go_wp2_with fail
    refine (H2.out w1 hb1).mono ?_
    rintro e w2 ⟨rfl, hb2⟩
    have hbx2 := HX1.out.trans (hb2.mono hs1)
    clear y0 y1 y2 y3 y4 y5
    obtain ⟨y0, y1, y2, y3, y4, y5⟩ := HX.out _ _ hbx2 (by omega)
    have hb3 := (below_box hbx2).1
    clear hbx2
    by_cases h2 : (10 : Int) < (L : Int)
    · go_wp2_with fail
      go_ret
      exact ⟨retI (by unfold itemErr; rw [HL.out, if_neg HNO.out, if_pos (by omega)]), hb3⟩
    · go_wp2_with fail
      refine (H3.out w2 hb3).mono ?_
      rintro e w3 ⟨rfl, hb4⟩
      go_wp2_with fail
      go_ret
      exact ⟨retI (by unfold itemErr; rw [HL.out, if_neg HNO.out, if_neg (by omega)]), hb3.trans (hb4.mono hb3.size)⟩
theorem checkItem_any (k : Int) (bo : Bool) (i : Int) (t : ByteArray) (A1 : Option Addr) (n1 c1 : Nat) (A2 : Option Addr) (n2 c2 : Nat) (items : Vals) (keys : List ByteArray) (w : World)
    (hv : VOk w w.heap.size k i t A1 n1 c1 A2 n2 c2 items keys) (hbig : items.nodes ≤ 1099511627776) (hl : items.letters ≤ 1099511627776) (hn2 : n2 ≤ 1099511627776) :
    Calls Tryd.prog 4 #[.agg #[.int .i64 k, .bool bo, .int .i64 i, .string t, .slice A1 n1 c1, .slice A2 n2 c2]] w
      fun e w' => e = .returned (.int .i64 (itemErr k bo i t items keys)) ∧ Below w.heap.size w w' := by
  have H1 := Lib.hid (fun wX (hX : Below w.heap.size w wX) => lNested_any k bo i t A1 n1 c1 A2 n2 c2 items keys wX ((hv.below hX).more hX.size) hbig hl hn2)
  have HB := Lib.hid (fun o => (Below.refl w.heap.size w).alloc (Nat.le_refl _) o)
  clear hv
  go_enter Tryd.func4, Tryd.ntmps4
  go_wp2_with fail
  refine (H1.out _ (HB.out _)).mono ?_
  rintro e w1 ⟨rfl, hb1⟩
  go_wp2_with fail
  go_ret
  exact ⟨rfl, (HB.out _).trans (hb1.mono (by simp))⟩
end Go.Proofs.YteckcanghnligaaDoor
