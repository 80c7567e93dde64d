/- DERIVED. What Quote returns for every value. Condition: there is room for the constant; the library's table of powers of ten. -/
import Derived.Test.YtfgekmfkaepgjaaDoorQValue
namespace Go.Proofs.YtfgekmfkaepgjaaDoor
set_option linter.unusedVariables false
open Go.RowKit
theorem ret_si {X s : ByteArray} {y : Int} (h : X = s) : Ending.returned (.tuple #[.string s, .int .i64 y]) = .returned (.tuple #[.string X, .int .i64 y]) := by rw [h]
theorem PowTab.all {w : World} (h : PowTab w) : PTab w.heap.size w := fun _ g => h.on g

theorem qconv_zero (A : Option Addr) (c : Nat) (w : World) : (convert 45 9 (.slice A 0 c)).run Tryd.prog w = .ok (.string ⟨#[]⟩) w := by
  cases A with
  | none => exact run_convert_bytes_nil w 45 5 Tryd.underlying45 Tryd.underlying5 0 c 9 Tryd.underlying9
  | some a => exact run_convert_bytes_back (P := Tryd.prog) w 45 9 5 a c [] Tryd.underlying45 Tryd.underlying5 Tryd.underlying9 (fun j hj => absurd hj (by simp))
theorem qrow_cells {w : World} {base : Nat} {l : List UInt8} {A : Option Addr} {c : Nat} {e : TypeId} (h : w.ownsRow base e 1 (.slice A l.length c) l.length (bcells l)) (hl : l ≠ []) :
    ∃ g cap, Value.slice A l.length c = .slice (some ⟨g, 0, none⟩) l.length cap ∧ ∀ j (hj : j < l.length), w.cell? ((⟨g, 0, none⟩ : Addr).add j) = some (.int .u8 (l[j].toNat : Int)) := by
  have hp := List.length_pos_iff.2 hl
  have h2 := h
  rcases h.2 with ⟨e1, e0⟩ | ⟨g, cap, cur, e1, hg, hh, hn, hm, _⟩
  · omega
  · refine ⟨g, cap, e1, fun j hj => ?_⟩
    rw [e1] at h2
    exact h2.cells (g := g) rfl j _ (by unfold bcells Lib.byteCells; rw [List.getElem?_map, List.getElem?_eq_getElem hj]; rfl)

set_option maxRecDepth 100000 in
set_option maxHeartbeats 2000000 in
theorem quoted_any (k : Int) (bo : Bool) (i : Int) (t : ByteArray) (A1 : Option Addr) (n1 c1 : Nat) (A2 : Option Addr) (n2 c2 : Nat) (items : Vals) (keys : List ByteArray) (w : World)
    (hv : VOk w w.heap.size k i t A1 n1 c1 A2 n2 c2 items keys) (ht : PowTab w) (hlen : vM t items keys ≤ 140737488355328) :
    Calls Tryd.prog 17 #[.agg #[.int .i64 k, .bool bo, .int .i64 i, .string t, .slice A1 n1 c1, .slice A2 n2 c2], .int .i64 9223372036854775807] w fun e w' => e = .returned (.string ⟨(vT k bo i t items keys).toArray⟩) ∧ Below w.heap.size w w' := by
  have hs1 : (w.alloc (.cells #[.int .i64 k, .bool bo, .int .i64 i, .string t, .slice A1 n1 c1, .slice A2 n2 c2] 25)).heap.size = w.heap.size + 1 := by simp
  have hB2 : Below w.heap.size w ((w.alloc (.cells #[.int .i64 k, .bool bo, .int .i64 i, .string t, .slice A1 n1 c1, .slice A2 n2 c2] 25)).alloc (.cells #[.slice none 0 0, .int .i64 9223372036854775807] 47)) := ((Below.refl _ w).alloc (Nat.le_refl _) _).alloc (by rw [hs1]; omega) _
  have q0 : QAt w.heap.size (w.heap.size + 1) [] (.slice none 0 0) ((w.alloc (.cells #[.int .i64 k, .bool bo, .int .i64 i, .string t, .slice A1 n1 c1, .slice A2 n2 c2] 25)).alloc (.cells #[.slice none 0 0, .int .i64 9223372036854775807] 47)) := by
    refine ⟨Nat.le_succ _, ?_, ⟨by simp [bcells, Lib.byteCells], .inl ⟨rfl, rfl⟩⟩⟩
    rw [← hs1]
    show ((w.alloc _).heap.push _)[(w.alloc _).heap.size]? = _
    exact Array.getElem?_push_size
  have H := Lib.hid (qvalue_any w.heap.size (w.heap.size + 1) items.nodes k bo i t items keys (Nat.le_refl _) A1 n1 c1 A2 n2 c2 [] (.slice none 0 0) _ q0 (hv.below hB2) (fun _ g => ht.on (hB2.trans g)) hB2.size (by simpa using hlen))
  have HB2 := Lib.hid hB2
  clear q0 hB2 hv ht hlen hs1
  rw [List.nil_append] at H
  generalize vT k bo i t items keys = L at H ⊢
  go_enter Tryd.func17, Tryd.ntmps17
  go_wp2_with fail
  refine H.out.mono ?_
  rintro e w9 ⟨rfl, ⟨v9, q9⟩, r9⟩
  obtain ⟨ao9, cp9, rfl⟩ := slice_own q9.row
  have d9 := q9.cell
  have hb9 := HB2.out.trans r9.bel
  have HB9 := Lib.hid hb9
  have hrow := q9.row
  clear q9 r9 hb9
  by_cases hL : L = []
  · subst hL
    clear hrow
    have hc := fun wX => qconv_zero ao9 cp9 wX
    simp only [List.length_nil] at d9
    go_wp2_with fail
    go_ret
    exact ⟨rfl, HB9.out⟩
  · obtain ⟨g, cap, hAg, hcells⟩ := qrow_cells hrow hL
    obtain ⟨rfl, rfl⟩ : ao9 = some ⟨g, 0, none⟩ ∧ cp9 = cap := by simpa using hAg
    clear hAg hrow
    have hback := run_convert_bytes_back (P := Tryd.prog) w9 45 9 5 ⟨g, 0, none⟩ cp9 L Tryd.underlying45 Tryd.underlying5 Tryd.underlying9 hcells
    clear hcells
    go_wp2_with fail
    go_ret
    exact ⟨rfl, HB9.out⟩

set_option maxRecDepth 100000 in
set_option maxHeartbeats 1000000 in
theorem quote_any (k : Int) (bo : Bool) (i : Int) (t : ByteArray) (A1 : Option Addr) (n1 c1 : Nat) (A2 : Option Addr) (n2 c2 : Nat) (items : Vals) (keys : List ByteArray) (w : World)
    (hv : VOk w w.heap.size k i t A1 n1 c1 A2 n2 c2 items keys) (ht : PowTab w) (hlen : vM t items keys ≤ 140737488355328) :
    Calls Tryd.prog 9 #[.agg #[.int .i64 k, .bool bo, .int .i64 i, .string t, .slice A1 n1 c1, .slice A2 n2 c2]] w
      fun e w' => e = .returned (.tuple #[.string (if vE k bo i t items 1 = 0 then ⟨(vT k bo i t items keys).toArray⟩ else ⟨#[]⟩), .int .i64 (vE k bo i t items 1)]) ∧ Below w.heap.size w w' := by
  have H1 := Lib.hid (fun wX (hX : Below w.heap.size w wX) => qchk_any items.nodes 1 k bo i t A1 n1 c1 A2 n2 c2 items keys wX ((hv.below hX).more hX.size) (Nat.le_refl _) (by decide) (by decide) (ht.on hX))
  have H2 := Lib.hid (fun wX (hX : Below w.heap.size w wX) => quoted_any k bo i t A1 n1 c1 A2 n2 c2 items keys wX ((hv.below hX).more hX.size) (ht.on hX) hlen)
  clear hv ht hlen
  generalize vE k bo i t items 1 = y at H1 ⊢
  generalize vT k bo i t items keys = L at H2 ⊢
  have HB0 := Lib.hid ((Below.refl w.heap.size w).alloc (Nat.le_refl _) (.cells #[.int .i64 k, .bool bo, .int .i64 i, .string t, .slice A1 n1 c1, .slice A2 n2 c2] 25))
  have hgb : (w.alloc (.cells #[.int .i64 k, .bool bo, .int .i64 i, .string t, .slice A1 n1 c1, .slice A2 n2 c2] 25)).heap[w.heap.size]? = some (.cells #[.int .i64 k, .bool bo, .int .i64 i, .string t, .slice A1 n1 c1, .slice A2 n2 c2] 25 (0, 0)) := by
    show (w.heap.push _)[w.heap.size]? = _
    exact Array.getElem?_push_size
  have HG := Lib.hid hgb; clear hgb
  by_cases hy : y = 0
  · subst hy
    go_enter Tryd.func9, Tryd.ntmps9
    go_wp2_with fail
    refine (H1.out _ (by first | exact HB0.out | exact Below.refl _ _)).mono ?_
    rintro e w1 ⟨rfl, hb1⟩
    have hb2 : Below w.heap.size w w1 := by first | exact HB0.out.trans (hb1.mono HB0.out.size) | exact hb1
    obtain ⟨y0, y1, y2, y3, y4, y5⟩ := six ((hb1.block w.heap.size (by simp)).trans HG.out)
    clear hb1
    go_wp2_with fail
    refine (H2.out _ hb2).mono ?_
    rintro e w3 ⟨rfl, hb3⟩
    have hb4 := hb2.trans (hb3.mono hb2.size)
    clear hb3
    go_wp2_with fail
    go_ret2
    exact ⟨ret_si rfl, hb4⟩
  · have HY := Lib.hid (show (if y = 0 then (⟨L.toArray⟩ : ByteArray) else ⟨#[]⟩) = ⟨#[]⟩ from if_neg hy)
    go_enter Tryd.func9, Tryd.ntmps9
    go_wp2_with fail
    refine (H1.out _ (by first | exact HB0.out | exact Below.refl _ _)).mono ?_
    rintro e w1 ⟨rfl, hb1⟩
    have hb2 : Below w.heap.size w w1 := by first | exact HB0.out.trans (hb1.mono HB0.out.size) | exact hb1
    clear hb1
    go_wp2_with fail
    go_ret2
    exact ⟨ret_si rfl, hb2⟩
end Go.Proofs.YtfgekmfkaepgjaaDoor
