/- DERIVED. What list's isKey, listsFit and checkKeys return. Condition: strings of at most 2^40 bytes, at most 2^40 keys. -/
import Derived.Test.YteckcanghnligaaDoorItemPlain
import Derived.Test.YteckcanghnligaaDoorConfChk
import Derived.Laws.MakeOwn
namespace Go.Proofs.YteckcanghnligaaDoor
set_option linter.unusedVariables false
open Go.RowKit
def zeroVal : List Value := [.int .i64 0, .bool false, .int .i64 0, .string ⟨#[]⟩, .slice none 0 0, .slice none 0 0]
theorem valInfo : (Tryd.prog.info? 25).map (fun i => (i.zero, i.size, i.bytes)) = some (some (Value.agg #[.int .i64 0, .bool false, .int .i64 0, .string ⟨#[]⟩, .slice none 0 0, .slice none 0 0]), 6, 88) := by kernel_rfl
theorem strInfo : (Tryd.prog.info? 9).map (fun i => (i.zero, i.size, i.bytes)) = some (some (Value.string ⟨#[]⟩), 1, 16) := by kernel_rfl
theorem made_once (z : Array Value) : madeCells z z.size = z := by
  apply Array.ext
  · simp [madeCells]
  · intro i h1 h2
    simp only [madeCells, Array.getElem_map, Array.getElem_range]
    rw [Nat.mod_eq_of_lt h2, getElem!_pos z i h2]
theorem val_make1 (W : World) : (Instr.makeSlice 22 (.int .i64 1) (.int .i64 1)).run Tryd.prog W = .ok (.slice (some ⟨W.heap.size, 0, none⟩) 1 1) (W.alloc (.cells #[.int .i64 0, .bool false, .int .i64 0, .string ⟨#[]⟩, .slice none 0 0, .slice none 0 0] 25)) := by
  obtain ⟨i, hi, hz, hs, hb⟩ := info_parts valInfo
  have h := run_make (P := Tryd.prog) W 22 25 i _ Tryd.underlying22 hi hz .i64 .i64 1 1 (by omega) (Int.le_refl _) (by rw [hb]; omega) (by omega)
  rw [hs] at h
  have e := made_once #[Value.int .i64 0, .bool false, .int .i64 0, .string ⟨#[]⟩, .slice none 0 0, .slice none 0 0]
  exact h.trans (congrArg (fun cs => Result.ok _ (W.alloc (.cells cs 25))) e)
theorem str_make1 (W : World) : (Instr.makeSlice 23 (.int .i64 1) (.int .i64 1)).run Tryd.prog W = .ok (.slice (some ⟨W.heap.size, 0, none⟩) 1 1) (W.alloc (.cells #[.string ⟨#[]⟩] 9)) := by
  obtain ⟨i, hi, hz, hs, hb⟩ := info_parts strInfo
  have h := run_make (P := Tryd.prog) W 23 9 i _ Tryd.underlying23 hi hz .i64 .i64 1 1 (by omega) (Int.le_refl _) (by rw [hb]; omega) (by omega)
  rw [hs] at h
  have e := made_once #[Value.string ⟨#[]⟩]
  exact h.trans (congrArg (fun cs => Result.ok _ (W.alloc (.cells cs 9))) e)
def keyItems : Vals := .cons 0 false 0 ⟨#[]⟩ .nil [] .nil
theorem keyOk (s : ByteArray) (w : World) (hs : s.size ≤ maxLen) :
    VOk ((w.alloc (.cells #[.string s] 9)).alloc (.cells #[.int .i64 0, .bool false, .int .i64 0, .string ⟨#[]⟩, .slice none 0 0, .slice none 0 0] 25))
      (w.heap.size + 2) 6 0 ⟨#[]⟩ (some ⟨w.heap.size + 1, 0, none⟩) 1 1 (some ⟨w.heap.size, 0, none⟩) 1 1 keyItems [s] := by
  have hz : ∀ j v, #[Value.int .i64 0, .bool false, .int .i64 0, .string ⟨#[]⟩, .slice none 0 0, .slice none 0 0][j]? = some v → ((w.alloc (.cells #[.string s] 9)).alloc (.cells #[.int .i64 0, .bool false, .int .i64 0, .string ⟨#[]⟩, .slice none 0 0, .slice none 0 0] 25)).cell? ⟨w.heap.size + 1, j, none⟩ = some v := fun j v hv => by
    have hb := heap_alloc_new (w.alloc (.cells #[.string s] 9)) (.cells #[.int .i64 0, .bool false, .int .i64 0, .string ⟨#[]⟩, .slice none 0 0, .slice none 0 0] 25)
    rw [show (w.alloc (.cells #[Value.string s] 9)).heap.size = w.heap.size + 1 by simp] at hb
    rw [cell_of_row _ _ _ _ _ _ hb]
    exact hv
  refine ⟨Nat.le_refl _, by unfold maxLen; omega, Nat.le_refl _, by unfold maxLen; omega, rfl, rfl, by unfold maxLen; exact Nat.zero_le _, ?_, ?_⟩
  · exact ⟨w.heap.size + 1, 0, 0, none, 0, 0, none, 0, 0, rfl, rfl, by omega, hz 0 _ rfl, hz 1 _ rfl, hz 2 _ rfl, hz 3 _ rfl, hz 4 _ rfl, hz 5 _ rfl, Nat.le_refl _, Nat.zero_le _, Nat.le_refl _, Nat.zero_le _, rfl, rfl, Nat.zero_le _, rfl, ⟨rfl, fun s h => (by cases h), fun h => absurd h (by omega)⟩, rfl⟩
  · refine ⟨rfl, fun x hx => by rw [List.mem_singleton.1 hx]; exact hs, fun _ => ⟨w.heap.size, 0, rfl, by omega, fun j x hj => ?_⟩⟩
    have hb : ((w.alloc (.cells #[.string s] 9)).alloc (.cells #[.int .i64 0, .bool false, .int .i64 0, .string ⟨#[]⟩, .slice none 0 0, .slice none 0 0] 25)).heap[w.heap.size]? = some (.cells #[.string s] 9 (0, 0)) := by
      rw [Below.heap_alloc _ _ _ (by simp)]
      exact heap_alloc_new w _
    rw [cell_of_row _ _ _ _ _ _ hb]
    match j, hj with
    | 0, hj => simp at hj; subst hj; rfl
    | j + 1, hj => simp at hj
set_option maxRecDepth 100000 in
set_option maxHeartbeats 800000 in
theorem lKey_any (s : ByteArray) (w : World) (hs : s.size ≤ maxLen) :
    Calls Tryd.prog 24 #[.string s] w fun e w' => e = .returned (.bool (keyB s)) ∧ Below w.heap.size w w' := by
  have hk := keyOk s w hs
  have hb2 : Below w.heap.size w ((w.alloc (.cells #[.string s] 9)).alloc (.cells #[.int .i64 0, .bool false, .int .i64 0, .string ⟨#[]⟩, .slice none 0 0, .slice none 0 0] 25)) :=
    ((Below.refl _ _).alloc (Nat.le_refl _) _).alloc (by simp) _
  have hsz : ((w.alloc (.cells #[.string s] 9)).alloc (.cells #[.int .i64 0, .bool false, .int .i64 0, .string ⟨#[]⟩, .slice none 0 0, .slice none 0 0] 25)).heap.size = w.heap.size + 2 := by simp
  rw [← hsz] at hk
  have hc := confCheck_any 6 false 0 ⟨#[]⟩ (some ⟨w.heap.size + 1, 0, none⟩) 1 1 (some ⟨w.heap.size, 0, none⟩) 1 1 keyItems [s] _ hk (by decide) (by decide) (by omega)
  unfold keyItems at hc
  rw [confErr_key] at hc
  have hm := val_make1 (w.alloc (.cells #[.string s] 9))
  rw [show (w.alloc (.cells #[Value.string s] 9)).heap.size = w.heap.size + 1 by simp] at hm
  cases hkb : keyB s <;> (
    rw [hkb] at hc
    have HC := Lib.hid hc
    have HB := Lib.hid hb2
    clear hc hk hkb hsz hb2
    go_enter Tryd.func24, Tryd.ntmps24
    go_wp2_with fail
    refine HC.out.mono ?_
    rintro e w1 ⟨rfl, hb1⟩
    go_wp2_with fail
    go_ret
    exact ⟨rfl, HB.out.trans (hb1.mono HB.out.size)⟩)
end Go.Proofs.YteckcanghnligaaDoor
