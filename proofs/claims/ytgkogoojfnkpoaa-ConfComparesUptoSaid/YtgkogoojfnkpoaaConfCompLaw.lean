/- DERIVED. What ConfCompares returns for two values in memory: true. Condition: at most 2^36 values and letters each. -/
import Derived.Test.YtgkogoojfnkpoaaConfCmpP
namespace Go.Proofs.Ytgkogoojfnkpoaa
set_option linter.unusedVariables false
open Go.RowKit
theorem retD {a b : Bool} (h : a = b) : Ending.returned (.bool b) = .returned (.bool a) := by rw [h]
set_option maxRecDepth 100000 in
set_option maxHeartbeats 40000000 in
theorem confCompares_any (k : Int) (bo : Bool) (i : Int) (t : ByteArray) (A1 : Option Addr) (n1 c1 : Nat) (A2 : Option Addr) (n2 c2 : Nat) (items : Vals) (keys : List ByteArray)
    (k' : Int) (bo' : Bool) (i' : Int) (t' : ByteArray) (A1' : Option Addr) (n1' c1' : Nat) (A2' : Option Addr) (n2' c2' : Nat) (items' : Vals) (keys' : List ByteArray) (w : World)
    (hv : VOk w w.heap.size k i t A1 n1 c1 A2 n2 c2 items keys) (hv' : VOk w w.heap.size k' i' t' A1' n1' c1' A2' n2' c2' items' keys')
    (hm : items.nodes + 1 ≤ 68719476736) (hl : t.size + kz keys + items.letters ≤ 68719476736) (hm' : items'.nodes + 1 ≤ 68719476736) (hl' : t'.size + kz keys' + items'.letters ≤ 68719476736) :
    Calls Try.prog 5 #[.agg #[.int .i64 k, .bool bo, .int .i64 i, .string t, .slice A1 n1 c1, .slice A2 n2 c2], .agg #[.int .i64 k', .bool bo', .int .i64 i', .string t', .slice A1' n1' c1', .slice A2' n2' c2']] w
      fun e w' => e = .returned (.bool true) ∧ Below w.heap.size w w' := by
  obtain ⟨x, hx⟩ : ∃ x, cOne k bo i t items keys k' bo' i' t' items' keys' = x := ⟨_, rfl⟩
  have hk1 := kz_len keys
  have hk2 := kz_len keys'
  have hk3 := hv.ks.1
  have hk4 := hv'.ks.1
  have h1 := fun wX (hX : Below w.heap.size w wX) => compare_any k bo i t A1 n1 c1 A2 n2 c2 items keys k' bo' i' t' A1' n1' c1' A2' n2' c2' items' keys' wX ((hv.below hX).more hX.size) ((hv'.below hX).more hX.size) hm hl hm' hl'
  have h2 := fun wX (hX : Below w.heap.size w wX) => compareOf_any items.nodes k bo i t A1 n1 c1 A2 n2 c2 items keys k' bo' i' t' A1' n1' c1' A2' n2' c2' items' keys' wX ((hv.below hX).more hX.size) ((hv'.below hX).more hX.size) (Nat.le_refl _) (by omega) (by omega) (by omega) (by omega) (by omega) (by omega)
  rw [hx] at h1 h2
  have HX := fun (w1 : World) (hb : Below (w.heap.size + 2) ((w.alloc (boxV k bo i t A1 n1 c1 A2 n2 c2)).alloc (boxV k' bo' i' t' A1' n1' c1' A2' n2' c2')) w1) => boxV12 hb
  have HB := fun (w1 : World) (hb : Below (w.heap.size + 2) ((w.alloc (boxV k bo i t A1 n1 c1 A2 n2 c2)).alloc (boxV k' bo' i' t' A1' n1' c1' A2' n2' c2')) w1) => below_box2 hb
  have hb0 := Below.refl (w.heap.size + 2) ((w.alloc (boxV k bo i t A1 n1 c1 A2 n2 c2)).alloc (boxV k' bo' i' t' A1' n1' c1' A2' n2' c2'))
  generalize hW2 : (w.alloc (boxV k bo i t A1 n1 c1 A2 n2 c2)).alloc (boxV k' bo' i' t' A1' n1' c1' A2' n2' c2') = W2 at HX HB hb0
  unfold boxV at hW2
  unfold Six at HX
  simp only [Nat.zero_add] at HX
  have H1 := Lib.hid (fun wX (hX : Below (w.heap.size + 2) W2 wX) => (h1 wX (HB wX hX).1).mono (fun e w' h => (⟨h.1, hX.trans (h.2.mono (HB wX hX).2), HX _ (hX.trans (h.2.mono (HB wX hX).2))⟩ : _ ∧ Below (w.heap.size + 2) W2 w' ∧ _)))
  have H2 := Lib.hid (fun wX (hX : Below (w.heap.size + 2) W2 wX) => (h2 wX (HB wX hX).1).mono (fun e w' h => (⟨h.1, hX.trans (h.2.mono (HB wX hX).2), HX _ (hX.trans (h.2.mono (HB wX hX).2))⟩ : _ ∧ Below (w.heap.size + 2) W2 w' ∧ _)))
  obtain ⟨⟨x0, x1, x2, x3, x4, x5⟩, y0, y1, y2, y3, y4, y5⟩ := HX _ hb0
  have HBW := Lib.hid HB
  clear hv hv' hm hl hm' hl' hx HB h1 h2 HX hk1 hk2 hk3 hk4
  go_enter Try.func5, Try.ntmps5
  go_wp2_with fail
  go_region_with (first
    | (refine (H1.out _ (by first | exact hb0 | exact hb0.drew | assumption)).mono ?_; rintro e w2 ⟨rfl, hb2, ⟨x0, x1, x2, x3, x4, x5⟩, y0, y1, y2, y3, y4, y5⟩)
    | (refine (H2.out _ (by first | assumption | exact hb0.drew)).mono ?_; rintro e w3 ⟨rfl, hb3, -⟩))
  all_goals (go_wp2_with fail; go_ret; exact ⟨retD (by simp), (HBW.out _ hb3).1⟩)
end Go.Proofs.Ytgkogoojfnkpoaa
