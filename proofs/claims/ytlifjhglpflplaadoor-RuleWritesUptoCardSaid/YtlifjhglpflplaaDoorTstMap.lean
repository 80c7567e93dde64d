/- DERIVED. A map from numbers to numbers that a call makes, entry by entry. No condition. -/
import Derived.Test.YtlifjhglpflplaaDoorTstForm
import Derived.WideMake
import Derived.Maps.Keyed
namespace Go.Proofs.YtlifjhglpflplaaDoor
open Go.RowKit Go.Maps
set_option linter.unusedVariables false
set_option linter.unusedSimpArgs false
theorem run_put (r clock : Nat) (es : Array MapEntry) (z v : Int) (w : World) (hb : w.heap[r]? = some (.map es clock)) (hf : Instr.findNow (.int .i64) (.int .i64 z) es.toList 0 = some none) :
    (Instr.mapUpdate 117 (.map (some r)) (.int .i64 z) (.int .i64 v)).run Tryd.prog w = .ok () { w with heap := w.heap.setIfInBounds r (.map (es.push { key := .int .i64 z, val := .int .i64 v, born := clock }) (clock + 1)) } := by
  have hk := Tryd.underlying3
  have hc : (Instr.checkKey false 10000 3 (.int .i64 z)).run Tryd.prog w = .ok () w := MapKept.run_checkKey (k := .int .i64 z) hk (by simp [MapKept.IsKey]) false 9999
  simp [Instr.mapUpdate, run_underlying Tryd.underlying117, MapKept.run_getObj_map hb, hc, MapKept.run_findKey hk hf, MapKept.run_setObj_map _ hb, Result.andThen]
theorem put_alloc (es es' : Array MapEntry) (c c' : Nat) (w : World) : ({ (w.alloc (.map es c)) with heap := (w.alloc (.map es c)).heap.setIfInBounds w.heap.size (.map es' c') } : World) = w.alloc (.map es' c') := by
  have h : (w.heap.push (Obj.map es c)).setIfInBounds w.heap.size (.map es' c') = w.heap.push (.map es' c') := by
    apply Array.ext_getElem?
    intro i
    by_cases hi : i = w.heap.size
    · subst hi
      rw [Array.getElem?_setIfInBounds_self_of_lt (by simp), Array.getElem?_push_size]
    · rw [Array.getElem?_setIfInBounds_ne (by omega), Array.getElem?_push, Array.getElem?_push, if_neg (by omega), if_neg (by omega)]
  show ({ w with heap := (w.heap.push (Obj.map es c)).setIfInBounds w.heap.size (.map es' c') } : World) = _
  rw [h]
  rfl
theorem run_put_new (clock : Nat) (es : Array MapEntry) (z v : Int) (w : World) (hf : Instr.findNow (.int .i64) (.int .i64 z) es.toList 0 = some none) :
    (Instr.mapUpdate 117 (.map (some w.heap.size)) (.int .i64 z) (.int .i64 v)).run Tryd.prog (w.alloc (.map es clock)) = .ok () (w.alloc (.map (es.push { key := .int .i64 z, val := .int .i64 v, born := clock }) (clock + 1))) := by
  rw [run_put w.heap.size clock es z v _ (heap_alloc_new _ _) hf, put_alloc]
theorem run_get (r clock : Nat) (es : Array MapEntry) (z : Int) (w : World) (o : Option (Nat × Value)) (hb : w.heap[r]? = some (.map es clock)) (hf : Instr.findNow (.int .i64) (.int .i64 z) es.toList 0 = some o) :
    (Instr.lookup 117 (.map (some r)) (.int .i64 z) true).run Tryd.prog w = .ok (match o with | none => .tuple #[.int .i64 0, .bool false] | some p => .tuple #[p.2, .bool true]) w := by
  have hk := Tryd.underlying3
  have hc : (Instr.checkKey es.isEmpty 10000 3 (.int .i64 z)).run Tryd.prog w = .ok () w := MapKept.run_checkKey (k := .int .i64 z) hk (by simp [MapKept.IsKey]) es.isEmpty 9999
  have hz : (zeroValue 3).run Tryd.prog w = .ok (.int .i64 0) w := by kernel_rfl
  cases o with
  | none => simp [Instr.lookup, run_underlying Tryd.underlying117, MapKept.run_getObj_map hb, hc, MapKept.run_findKey hk hf, hz, Result.andThen]
  | some p => simp [Instr.lookup, run_underlying Tryd.underlying117, MapKept.run_getObj_map hb, hc, MapKept.run_findKey hk hf, Result.andThen]
/-- The map of the reference's testForm. -/
def leastM : Array MapEntry := #[{ key := .int .i64 2, val := .int .i64 2, born := 0 }, { key := .int .i64 3, val := .int .i64 2, born := 1 }, { key := .int .i64 4, val := .int .i64 1, born := 2 }]
theorem put1 (w : World) : (Instr.mapUpdate 117 (.map (some w.heap.size)) (.int .i64 2) (.int .i64 2)).run Tryd.prog (w.alloc (.map #[] 0)) = .ok () (w.alloc (.map #[{ key := .int .i64 2, val := .int .i64 2, born := 0 }] 1)) := run_put_new 0 #[] 2 2 w rfl
theorem put2 (w : World) : (Instr.mapUpdate 117 (.map (some w.heap.size)) (.int .i64 3) (.int .i64 2)).run Tryd.prog (w.alloc (.map #[{ key := .int .i64 2, val := .int .i64 2, born := 0 }] 1)) = .ok () (w.alloc (.map #[{ key := .int .i64 2, val := .int .i64 2, born := 0 }, { key := .int .i64 3, val := .int .i64 2, born := 1 }] 2)) := run_put_new 1 #[{ key := .int .i64 2, val := .int .i64 2, born := 0 }] 3 2 w (by kernel_rfl)
theorem put3 (w : World) : (Instr.mapUpdate 117 (.map (some w.heap.size)) (.int .i64 4) (.int .i64 1)).run Tryd.prog (w.alloc (.map #[{ key := .int .i64 2, val := .int .i64 2, born := 0 }, { key := .int .i64 3, val := .int .i64 2, born := 1 }] 2)) = .ok () (w.alloc (.map leastM 3)) := run_put_new 2 #[{ key := .int .i64 2, val := .int .i64 2, born := 0 }, { key := .int .i64 3, val := .int .i64 2, born := 1 }] 4 1 w (by kernel_rfl)
theorem get2 (w : World) (r : Nat) (hb : w.heap[r]? = some (.map leastM 3)) : (Instr.lookup 117 (.map (some r)) (.int .i64 2) true).run Tryd.prog w = .ok (.tuple #[.int .i64 2, .bool true]) w := run_get r 3 leastM 2 w (some (0, .int .i64 2)) hb (by kernel_rfl)
theorem get3 (w : World) (r : Nat) (hb : w.heap[r]? = some (.map leastM 3)) : (Instr.lookup 117 (.map (some r)) (.int .i64 3) true).run Tryd.prog w = .ok (.tuple #[.int .i64 2, .bool true]) w := run_get r 3 leastM 3 w (some (1, .int .i64 2)) hb (by kernel_rfl)
theorem get4 (w : World) (r : Nat) (hb : w.heap[r]? = some (.map leastM 3)) : (Instr.lookup 117 (.map (some r)) (.int .i64 4) true).run Tryd.prog w = .ok (.tuple #[.int .i64 1, .bool true]) w := run_get r 3 leastM 4 w (some (2, .int .i64 1)) hb (by kernel_rfl)
theorem getN (w : World) (r : Nat) (k : Int) (h2 : k ≠ 2) (h3 : k ≠ 3) (h4 : k ≠ 4) (hb : w.heap[r]? = some (.map leastM 3)) : (Instr.lookup 117 (.map (some r)) (.int .i64 k) true).run Tryd.prog w = .ok (.tuple #[.int .i64 0, .bool false]) w := run_get r 3 leastM k w none hb (by
  have b2 : (k == 2) = false := by simpa using h2
  have b3 : (k == 3) = false := by simpa using h3
  have b4 : (k == 4) = false := by simpa using h4
  unfold leastM
  simp [Instr.findNow, Instr.sameNow, b2, b3, b4])
end Go.Proofs.YtlifjhglpflplaaDoor
