/- DERIVED. What tree's setting returns: what a table has at a key, if it is of the kind asked for. Condition: at most 2^40 keys. -/
import Derived.Test.YtohkdckllmmfhaaGreatDoorSv
import Derived.Test.YtohkdckllmmfhaaGreatDoorShelf
import Derived.WalkSmall
import Derived.BigGuardPart
import Derived.Laws.ResultCell
import Derived.Deep.Cut
import Derived.Deep.CutRange
namespace Go.Proofs.YtohkdckllmmfhaaGreatDoor
set_option linter.unusedVariables false
open Go.RowKit
theorem bsearch_any (l : List ByteArray) (A : Option Addr) (n c : Nat) (x : ByteArray) (w : World) (hl : KeysAt w w.heap.size l A n) (hr : Rising l) (hn : n ≤ 1099511627776) :
    Calls Tryz.prog 100 #[.slice A n c, .string x] w
      fun e w' => e = .returned (.tuple #[.int .i64 ((lessK l x : Nat) : Int), .bool (decide (idxK l x = some (lessK l x)))]) ∧ ∃ q, w' = w.drewN q := by
  obtain ⟨hnl, hsz, hc⟩ := hl
  by_cases h0 : n = 0
  · subst h0
    obtain rfl : l = [] := List.eq_nil_of_length_eq_zero hnl.symm
    refine (Tryz.slices_BinarySearch_string_empty A c x w).mono ?_
    rintro e w' ⟨rfl, rfl⟩
    exact ⟨by simp [lessK, idxK], 0, rfl⟩
  · obtain ⟨b, o, rfl, hb, hcell⟩ := hc (by omega)
    refine (Tryz.slices_BinarySearch_string b o n c (fun t => l.getD t ByteArray.empty) x w (by omega) (fun j hj => ?_)).mono ?_
    · have hj' : j < l.length := by omega
      refine hcell j _ ?_
      rw [List.getD_eq_getElem?_getD, List.getElem?_eq_getElem hj']
      rfl
    · rintro e w' ⟨rfl, q, rfl⟩
      subst hnl
      have h := bs_less hr x
      refine ⟨?_, q, rfl⟩
      rw [h]
      have hd : decide (lessK l x < l.length ∧ l.getD (lessK l x) ByteArray.empty = x) = decide (idxK l x = some (lessK l x)) := decide_eq_decide.2 (less_idx hr x)
      rw [hd]
/-- A value, and whether it is there. -/
def SetPost (p : Vals) (w : World) (e : Ending) (w' : World) : Prop :=
  ∃ a : Sv, e = .returned (.tuple #[a.val, .bool p.isSome]) ∧ a.row = p.orZero ∧ a.okB w' w'.heap.size ∧ Below w.heap.size w w'
theorem pick_no {k : Int} {items : Vals} {keys : List ByteArray} {key : ByteArray} (h : ¬ k = 6) : pickK k items keys key = .nil := by unfold pickK; rw [if_neg h]
theorem pick_miss {k : Int} {items : Vals} {keys : List ByteArray} {key : ByteArray} (h : idxK keys key = none) : pickK k items keys key = .nil := by
  unfold pickK
  rw [h]
  split <;> rfl
theorem pick_hit {k : Int} {items : Vals} {keys : List ByteArray} {key : ByteArray} {j : Nat} (hk : k = 6) (h : idxK keys key = some j) : pickK k items keys key = items.one j := by
  unfold pickK
  rw [if_pos hk, h]
theorem svRes {fn : Func} {p u : Tmp} (h : fn.results = #[.cell p 25, .tmp u]) (tmps : Array Value) (w : World) (N : Nat) (a : Sv) (x : Value)
    (hp : tmps.getD p undef = .pointer (some ⟨N, 0, none⟩)) (hu : tmps.getD u undef = x) (hr : w.rangeAt N 0 a.cs.toList) : (results fn tmps).run Tryz.prog w = .ok (.tuple #[a.val, x]) w := by
  rw [results_cell_tmp h, hp, hu]
  have e : (asAddr (.pointer (some ⟨N, 0, none⟩))).run Tryz.prog w = .ok ⟨N, 0, none⟩ w := rfl
  rw [e]
  simp only [Result.andThen, sv_load hr]
theorem svRange {w : World} {N : Nat} {a : Sv} (h : w.heap[N]? = some a.box) : w.rangeAt N 0 a.cs.toList := fun j v hv => by
  rw [show w.cell? ⟨N, 0 + j, none⟩ = (#[.int .i64 a.k, .bool a.bo, .int .i64 a.i, .string a.t, .slice a.A1 a.n1 a.c1, .slice a.A2 a.n2 a.c2] : Array Value)[0 + j]? from cell_of_row _ _ _ _ _ _ h]
  rw [Nat.zero_add]
  rw [← Array.getElem?_toList]
  exact hv
theorem svTwo (w : World) (a b : Sv) : Below w.heap.size w ((w.alloc a.box).alloc b.box) := ((Below.refl _ _).alloc (Nat.le_refl _) _).alloc (by simp) _
theorem svTwo1 {w w1 : World} {a b : Sv} (hb : Below (w.heap.size + 2) ((w.alloc a.box).alloc b.box) w1) : Below w.heap.size w w1 ∧ w.heap.size + 2 ≤ w1.heap.size ∧ w1.heap[w.heap.size]? = some a.box ∧ w1.heap[w.heap.size + 1]? = some b.box := by
  have hs := hb.size
  simp at hs
  refine ⟨(svTwo w a b).trans (hb.mono (by omega)), hs, (hb.block _ (by omega)).trans ?_, (hb.block _ (by omega)).trans ?_⟩
  · exact (Below.heap_alloc _ _ _ (by simp)).trans (heap_alloc_new w _)
  · have h := heap_alloc_new (w.alloc a.box) b.box
    rwa [show (w.alloc a.box).heap.size = w.heap.size + 1 by simp] at h
/-- A value that is stored into the second of two blocks. -/
theorem svPut {w w1 : World} {s z a : Sv} (hT : Below w.heap.size w w1 ∧ w.heap.size + 2 ≤ w1.heap.size ∧ w1.heap[w.heap.size]? = some s.box ∧ w1.heap[w.heap.size + 1]? = some z.box) :
    Below w.heap.size w (w1.setCells (w.heap.size + 1) 0 a.cs.toList) ∧ (w1.setCells (w.heap.size + 1) 0 a.cs.toList).rangeAt (w.heap.size + 1) 0 a.cs.toList :=
  ⟨below_setCells' (by omega) _ _ hT.1, sv_set w1 _ a _ rfl (svThere hT.2.2.2)⟩
end Go.Proofs.YtohkdckllmmfhaaGreatDoor
