/- DERIVED. What conf's tokens do with the string "=": an error. No condition but where they lie. -/
import Derived.Test.YthmggjgfbhicgaaGreatDoorProg
import Derived.Test.YthmggjgfbhicgaaGreatDoorShelf
import Derived.Lib.Hide
import Derived.ProofKit
import Derived.BigQuiet
import Derived.Deep.QuietTactic
import Derived.WalkSmall
import Derived.StillTailTactics
import Derived.Carry
import Derived.Laws.ResultCell
import Derived.Laws.Rows
namespace Go.Proofs.YthmggjgfbhicgaaGreatDoor
set_option linter.unusedVariables false
open Go.RowKit
theorem setIf_id {α : Type} {c : Array α} {i : Nat} {v : α} (h : c[i]? = some v) : c.setIfInBounds i v = c := by
  apply Array.ext_getElem?
  intro j
  rw [Array.getElem?_setIfInBounds]
  split
  · rename_i e
    subst e
    split
    · exact h.symm
    · rename_i hn
      rw [Array.getElem?_eq_none (by omega)] at h
      cases h
  · rfl
/-- A store of what is there turns nothing. -/
theorem setCell_id {w : World} {a : Addr} {v : Value} (h : w.cell? a = some v) : w.setCell a v = w := by
  have hh : (w.setCell a v).heap = w.heap := by
    apply Array.ext_getElem?
    intro j
    by_cases hj : j = a.block
    · subst hj
      unfold World.cell? at h
      unfold World.setCell
      simp only [Array.getElem?_modify, if_true]
      cases hb : w.heap[a.block]? with
      | none => rfl
      | some o =>
        rw [hb] at h
        cases o with
        | cells c e f =>
          simp only at h
          split at h
          · cases h
          · rename_i hs
            simp only [Option.map_some, if_neg hs, setIf_id h]
        | _ => cases h
    · exact heap_setCell_other w a j v hj
  have h2 : w.setCell a v = { w with heap := (w.setCell a v).heap } := rfl
  rw [h2, hh]
/-- The tokens of the string "=", as they begin. -/
structure TokEq (w : World) (R : Nat) : Prop where
  lt : R < w.heap.size
  c0 : w.cell? ⟨R, 0, none⟩ = some (.string ⟨#[61]⟩)
  c1 : w.cell? ⟨R, 1, none⟩ = some (.int .i64 0)
  c2 : w.cell? ⟨R, 2, none⟩ = some (.int .i64 0)
  f1 : w.frozen? ⟨R, 1, none⟩ = false
set_option maxRecDepth 100000 in
theorem isSmallQ (w : World) : Calls Tryz.prog 69 #[.int .u8 61] w fun e w' => e = .returned (.bool false) ∧ w' = w := by
  go_enter Tryz.func69, Tryz.ntmps69
  go_wp2_with fail
  go_ret
  exact ⟨rfl, rfl⟩
set_option maxRecDepth 100000 in
theorem isDigitQ (w : World) : Calls Tryz.prog 30 #[.int .u8 61] w fun e w' => e = .returned (.bool false) ∧ w' = w := by
  go_enter Tryz.func30, Tryz.ntmps30
  go_wp2_with fail
  go_ret
  exact ⟨rfl, rfl⟩
set_option maxRecDepth 100000 in
theorem isControlQ (w : World) : Calls Tryz.prog 65 #[.int .u8 61] w fun e w' => e = .returned (.bool false) ∧ w' = w := by
  go_enter Tryz.func65, Tryz.ntmps65
  go_wp2_with fail
  go_ret
  exact ⟨rfl, rfl⟩
set_option maxRecDepth 100000 in
theorem isWordQ (w : World) : Calls Tryz.prog 49 #[.int .u8 61] w fun e w' => e = .returned (.bool false) ∧ w' = w := by
  go_enter Tryz.func49, Tryz.ntmps49
  go_wp2_with fail
  refine (isSmallQ _).mono ?_
  rintro e w1 ⟨rfl, rfl⟩
  go_wp2_with fail
  refine (isDigitQ _).mono ?_
  rintro e w2 ⟨rfl, rfl⟩
  go_wp2_with fail
  go_ret
  exact ⟨rfl, rfl⟩
theorem indexQ (w : World) : Calls Tryz.prog 66 #[.string ⟨#[34, 91, 93, 123, 125, 59]⟩, .int .u8 61] w fun e w' => e = .returned (.int .i64 (-1)) ∧ w' = w :=
  (Tryz.strings_IndexByte ⟨#[34, 91, 93, 123, 125, 59]⟩ 61 w).mono fun e w' h => ⟨h.1.trans (by rw [show Lib.indexByte (ByteArray.mk #[34, 91, 93, 123, 125, 59]).data.toList (61 : Int).toNat.toUInt8 = -1 by decide]), h.2⟩
set_option maxRecDepth 100000 in
set_option maxHeartbeats 800000 in
theorem skipQ (R : Nat) (w : World) (h : TokEq w R) :
    Calls Tryz.prog 47 #[.pointer (some ⟨R, 0, none⟩), .bool false] w fun e w' => e = .returned (.int .i64 8) ∧ ∃ n, w' = w.drewN n := by
  obtain ⟨hlt, c0, c1, c2, f1⟩ := h
  have HID := Lib.hid (setCell_id c1)
  have HI := Lib.hid (fun wX => indexQ wX)
  go_enter Tryz.func47, Tryz.ntmps47
  go_wp2_with fail
  rw [HID.out]
  go_loopw [5] (fun v wr => v = .bool false ∧ wr = w) (fun _ _ => 0)
  case atStart => exact ⟨rfl, rfl⟩
  case round =>
    obtain ⟨rfl, rfl⟩ := hrel
    go_wp2_with fail
    go_quiet (fail)
    go_wp2_with fail
    have hb1 := below_drewN (Below.refl wr.heap.size wr) nq
    have d0 := (hb1.cell (p := ⟨R, 0, none⟩) hlt).trans c0
    have d1 := (hb1.cell (p := ⟨R, 1, none⟩) hlt).trans c1
    have hlt1 : R < (wr.drewN nq).heap.size := Nat.lt_of_lt_of_le hlt hb1.size
    have hdr : ∃ m, wr.drewN nq = wr.drewN m := ⟨nq, rfl⟩
    generalize wr.drewN nq = w1 at hdr d0 d1 hlt1 ⊢
    go_quiet (fail)
    go_wp2_with fail
    obtain ⟨m, rfl⟩ := hdr
    refine (isControlQ _).mono ?_
    rintro e w2 ⟨rfl, rfl⟩
    go_wp2_with fail
    refine (isWordQ _).mono ?_
    rintro e w2 ⟨rfl, rfl⟩
    go_wp2_with fail
    refine (HI.out _).mono ?_
    rintro e w2 ⟨rfl, rfl⟩
    go_wp2_with fail
    go_ret
    exact ⟨rfl, _, rfl⟩
set_option maxRecDepth 100000 in
set_option maxHeartbeats 400000 in
theorem readQ (R : Nat) (w : World) (h : TokEq w R) :
    Calls Tryz.prog 34 #[.pointer (some ⟨R, 0, none⟩), .bool false] w fun e w' => e = .returned (.int .i64 8) ∧ ∃ n, w' = w.drewN n := by
  have HS := Lib.hid (skipQ R w h)
  clear h
  go_enter Tryz.func34, Tryz.ntmps34
  go_wp2_with fail
  refine HS.out.mono ?_
  rintro e w1 ⟨rfl, m, rfl⟩
  go_wp2_with fail
  go_ret
  exact ⟨rfl, _, rfl⟩
theorem TokEq.below {w w' : World} {R : Nat} (h : TokEq w R) (hb : Below (R + 1) w w') : TokEq w' R :=
  ⟨Nat.lt_of_lt_of_le h.lt hb.size, (hb.cell (p := ⟨R, 0, none⟩) (by simp)).trans h.c0, (hb.cell (p := ⟨R, 1, none⟩) (by simp)).trans h.c1, (hb.cell (p := ⟨R, 2, none⟩) (by simp)).trans h.c2, (hb.frozen (p := ⟨R, 1, none⟩) (by simp)).trans h.f1⟩
theorem zero6 {w : World} {N : Nat} {t : TypeId} (e : w.heap[N]? = some (.cells #[.int .i64 0, .bool false, .int .i64 0, .string ⟨#[]⟩, .slice none 0 0, .slice none 0 0] t (0, 0))) :
    (w.cell? ⟨N, 0, none⟩ = some (.int .i64 0) ∧ w.frozen? ⟨N, 0, none⟩ = false) ∧ (w.cell? ⟨N, 1, none⟩ = some (.bool false) ∧ w.frozen? ⟨N, 1, none⟩ = false) ∧
    (w.cell? ⟨N, 2, none⟩ = some (.int .i64 0) ∧ w.frozen? ⟨N, 2, none⟩ = false) ∧ (w.cell? ⟨N, 3, none⟩ = some (.string ⟨#[]⟩) ∧ w.frozen? ⟨N, 3, none⟩ = false) ∧
    (w.cell? ⟨N, 4, none⟩ = some (.slice none 0 0) ∧ w.frozen? ⟨N, 4, none⟩ = false) ∧ (w.cell? ⟨N, 5, none⟩ = some (.slice none 0 0) ∧ w.frozen? ⟨N, 5, none⟩ = false) := by
  have c : ∀ j, w.cell? ⟨N, j, none⟩ = (#[.int .i64 0, .bool false, .int .i64 0, .string ⟨#[]⟩, .slice none 0 0, .slice none 0 0] : Array Value)[j]? := fun j => cell_of_row _ _ _ _ _ _ e
  exact ⟨⟨c 0, frozen_of_row w _ 0 _ _ e⟩, ⟨c 1, frozen_of_row w _ 1 _ _ e⟩, ⟨c 2, frozen_of_row w _ 2 _ _ e⟩, ⟨c 3, frozen_of_row w _ 3 _ _ e⟩, ⟨c 4, frozen_of_row w _ 4 _ _ e⟩, ⟨c 5, frozen_of_row w _ 5 _ _ e⟩⟩
/-- The value nil. -/
def nilV : Value := .agg #[.int .i64 0, .bool false, .int .i64 0, .string ⟨#[]⟩, .slice none 0 0, .slice none 0 0]
set_option maxRecDepth 100000 in
set_option maxHeartbeats 800000 in
theorem tableQ (R : Nat) (w : World) (h : TokEq w R) :
    Calls Tryz.prog 22 #[.pointer (some ⟨R, 0, none⟩), .int .u8 0, .int .i64 1] w fun e w' => e = .returned (.tuple #[nilV, .int .i64 8]) ∧ Below w.heap.size w w' := by
  have hlt := h.lt
  have HR := Lib.hid (fun wX (hX : Below (R + 1) w wX) => readQ R wX (h.below hX))
  clear h
  go_enter Tryz.func22, Tryz.ntmps22
  go_wp2_with fail
  rw [run_makeMap]
  simp only [Result.andThen]
  rw [Oper.upon_value]
  go_wp2_with fail
  go_loopw [9] (fun v wr => v = .bool true ∧ wr = (w.alloc (.cells #[.int .i64 0, .bool false, .int .i64 0, .string ⟨#[]⟩, .slice none 0 0, .slice none 0 0] 25)).alloc (.map #[] 0)) (fun _ _ => 0)
  case atStart => exact ⟨rfl, rfl⟩
  case round =>
    obtain ⟨rfl, rfl⟩ := hrel
    go_wp2_with fail
    refine (HR.out _ (((Below.refl _ _).alloc (by omega) _).alloc (by simp; omega) _)).mono ?_
    rintro e w1 ⟨rfl, m, rfl⟩
    have hbm : Below w.heap.size w (((w.alloc (.cells #[.int .i64 0, .bool false, .int .i64 0, .string ⟨#[]⟩, .slice none 0 0, .slice none 0 0] 25)).alloc (.map #[] 0)).drewN m) := below_drewN (((Below.refl _ _).alloc (Nat.le_refl _) _).alloc (by simp) _) m
    have e0 : (((w.alloc (.cells #[.int .i64 0, .bool false, .int .i64 0, .string ⟨#[]⟩, .slice none 0 0, .slice none 0 0] 25)).alloc (.map #[] 0)).drewN m).heap[w.heap.size]? = some (.cells #[.int .i64 0, .bool false, .int .i64 0, .string ⟨#[]⟩, .slice none 0 0, .slice none 0 0] 25 (0, 0)) := (Below.heap_alloc _ _ _ (by simp)).trans (heap_alloc_new w _)
    generalize ((w.alloc (.cells #[.int .i64 0, .bool false, .int .i64 0, .string ⟨#[]⟩, .slice none 0 0, .slice none 0 0] 25)).alloc (.map #[] 0)).drewN m = w1 at hbm e0 ⊢
    have c := zero6 e0
    obtain ⟨⟨c0, f0⟩, ⟨c1, f1⟩, ⟨c2, f2⟩, ⟨c3, f3⟩, ⟨c4, f4⟩, ⟨c5, f5⟩⟩ := c
    go_wp2_with fail
    rw [setCell_id c0, setCell_id c1, setCell_id c2, setCell_id c3, setCell_id c4, setCell_id c5]
    (try simp only [Exit.inBlock, Exit.then])
    refine bodyPost_ret (v := .tuple #[nilV, .int .i64 8]) ?_ rfl ⟨rfl, hbm⟩
    rw [results_cell_tmp rfl]
    go_simp
    rfl
theorem countQ (w : World) : Calls Tryz.prog 37 #[.string .empty, .string ⟨#[10]⟩] w fun e w' => e = .returned (.int .i64 0) ∧ w' = w := Tryz.strings_Count_one .empty 10 w
theorem lastQ (w : World) : Calls Tryz.prog 38 #[.string .empty, .int .u8 10] w fun e w' => e = .returned (.int .i64 (-1)) ∧ w' = w := Tryz.strings_LastIndexByte .empty 10 (by decide) w
set_option maxRecDepth 100000 in
set_option maxHeartbeats 800000 in
theorem posQ (R : Nat) (w : World) (h : TokEq w R) :
    Calls Tryz.prog 23 #[.pointer (some ⟨R, 0, none⟩)] w fun e w' => e = .returned (.agg #[.int .i64 1, .int .i64 1]) ∧ Below w.heap.size w w' := by
  obtain ⟨hlt, c0, c1, c2, f1⟩ := h
  go_enter Tryz.func23, Tryz.ntmps23
  go_wp2_with fail
  go_quiet (fail)
  go_wp2_with fail
  have hb1 : Below w.heap.size w ((w.alloc (.cells #[.int .i64 0, .int .i64 0] 40)).drewN nq) := below_drewN ((Below.refl _ _).alloc (Nat.le_refl _) _) nq
  have d1 := (hb1.cell (p := ⟨R, 1, none⟩) hlt).trans c1
  have e0 : ((w.alloc (.cells #[.int .i64 0, .int .i64 0] 40)).drewN nq).heap[w.heap.size]? = some (.cells #[.int .i64 0, .int .i64 0] 40 (0, 0)) := heap_alloc_new w _
  have hs1 : ((w.alloc (.cells #[.int .i64 0, .int .i64 0] 40)).drewN nq).heap.size = w.heap.size + 1 := by simp
  generalize (w.alloc (.cells #[.int .i64 0, .int .i64 0] 40)).drewN nq = w1 at hb1 d1 e0 hs1 ⊢
  refine wp_region_still_tail 11 (by kernel_rfl) (by kernel_rfl) ?_
  simp only [List.take_succ_cons, List.take_zero, List.drop_succ_cons, List.drop_zero]
  change wpStill _ _ w1.drew _ _ _
  repeat still_step
  still_call (countQ _)
  repeat still_step
  still_call (lastQ _)
  repeat still_step
  refine wpStill_nil ?_
  have hb2 : Below w.heap.size w w1.drew := hb1.drew
  have e2 : w1.drew.heap[w.heap.size]? = some (.cells #[.int .i64 0, .int .i64 0] 40 (0, 0)) := e0
  change wpList _ _ _ _ _ w1.drew
  generalize w1.drew = w2 at hb2 e2 ⊢
  have z0 : w2.cell? ⟨w.heap.size, 0, none⟩ = some (.int .i64 0) := by rw [cell_of_row _ _ _ _ _ _ e2]; rfl
  have z1 : w2.cell? ⟨w.heap.size, 1, none⟩ = some (.int .i64 0) := by rw [cell_of_row _ _ _ _ _ _ e2]; rfl
  have z2 : w2.frozen? ⟨w.heap.size, 0, none⟩ = false := frozen_of_row w2 _ 0 _ _ e2
  have z3 : w2.frozen? ⟨w.heap.size, 1, none⟩ = false := frozen_of_row w2 _ 1 _ _ e2
  go_wp2_with fail
  (try simp only [Exit.inBlock, Exit.then])
  refine bodyPost_ret (v := .agg #[.int .i64 1, .int .i64 1]) ?_ rfl ⟨rfl, (hb2.setCell (p := ⟨w.heap.size, 0, none⟩) (Nat.le_refl _) _).setCell (p := ⟨w.heap.size, 1, none⟩) (Nat.le_refl _) _⟩
  have e3 := heap_setCell_same _ w.heap.size 1 _ _ (.int .i64 1) (heap_setCell_same w2 w.heap.size 0 _ _ (.int .i64 1) e2)
  exact results_cell_row rfl _ _ w.heap.size _ _ _ _ rfl e3 Tryz.underlying40 rfl (by kernel_rfl)
theorem TokEq.keep {w w' : World} {R : Nat} (h : TokEq w R) (hb : Below w.heap.size w w') : TokEq w' R := h.below (hb.mono h.lt)
set_option maxRecDepth 100000 in
set_option maxHeartbeats 1000000 in
theorem parseQ (w : World) :
    Calls Tryz.prog 12 #[.string ⟨#[61]⟩] w fun e w' => e = .returned (.tuple #[nilV, .agg #[.int .i64 1, .int .i64 1], .int .i64 8]) ∧ Below w.heap.size w w' := by
  go_enter Tryz.func12, Tryz.ntmps12
  go_wp2_with fail
  have hb3 : Below w.heap.size w (((w.alloc (.cells #[.int .i64 0, .bool false, .int .i64 0, .string ⟨#[]⟩, .slice none 0 0, .slice none 0 0] 25)).alloc (.cells #[.int .i64 0, .int .i64 0] 40)).alloc (.cells #[.string ⟨#[61]⟩, .int .i64 0, .int .i64 0, .int .u8 0, .string ⟨#[]⟩, .int .i64 1] 63)) := (((Below.refl _ _).alloc (Nat.le_refl _) _).alloc (by simp) _).alloc (by simp; omega) _
  have hs3 : (((w.alloc (.cells #[.int .i64 0, .bool false, .int .i64 0, .string ⟨#[]⟩, .slice none 0 0, .slice none 0 0] 25)).alloc (.cells #[.int .i64 0, .int .i64 0] 40)).alloc (.cells #[.string ⟨#[61]⟩, .int .i64 0, .int .i64 0, .int .u8 0, .string ⟨#[]⟩, .int .i64 1] 63)).heap.size = w.heap.size + 3 := by simp
  have e0 : (((w.alloc (.cells #[.int .i64 0, .bool false, .int .i64 0, .string ⟨#[]⟩, .slice none 0 0, .slice none 0 0] 25)).alloc (.cells #[.int .i64 0, .int .i64 0] 40)).alloc (.cells #[.string ⟨#[61]⟩, .int .i64 0, .int .i64 0, .int .u8 0, .string ⟨#[]⟩, .int .i64 1] 63)).heap[w.heap.size]? = some (.cells #[.int .i64 0, .bool false, .int .i64 0, .string ⟨#[]⟩, .slice none 0 0, .slice none 0 0] 25 (0, 0)) := (Below.heap_alloc _ _ _ (by simp; omega)).trans ((Below.heap_alloc _ _ _ (by simp)).trans (heap_alloc_new w _))
  have e1 : (((w.alloc (.cells #[.int .i64 0, .bool false, .int .i64 0, .string ⟨#[]⟩, .slice none 0 0, .slice none 0 0] 25)).alloc (.cells #[.int .i64 0, .int .i64 0] 40)).alloc (.cells #[.string ⟨#[61]⟩, .int .i64 0, .int .i64 0, .int .u8 0, .string ⟨#[]⟩, .int .i64 1] 63)).heap[w.heap.size + 1]? = some (.cells #[.int .i64 0, .int .i64 0] 40 (0, 0)) := by
    refine (Below.heap_alloc _ _ _ (by simp)).trans ?_
    have h := heap_alloc_new (w.alloc (.cells #[.int .i64 0, .bool false, .int .i64 0, .string ⟨#[]⟩, .slice none 0 0, .slice none 0 0] 25)) (.cells #[.int .i64 0, .int .i64 0] 40)
    rwa [show (w.alloc (.cells #[.int .i64 0, .bool false, .int .i64 0, .string ⟨#[]⟩, .slice none 0 0, .slice none 0 0] 25)).heap.size = w.heap.size + 1 by simp] at h
  have htok : TokEq (((w.alloc (.cells #[.int .i64 0, .bool false, .int .i64 0, .string ⟨#[]⟩, .slice none 0 0, .slice none 0 0] 25)).alloc (.cells #[.int .i64 0, .int .i64 0] 40)).alloc (.cells #[.string ⟨#[61]⟩, .int .i64 0, .int .i64 0, .int .u8 0, .string ⟨#[]⟩, .int .i64 1] 63)) (w.heap.size + 1 + 1) := by
    have e2 : (((w.alloc (.cells #[.int .i64 0, .bool false, .int .i64 0, .string ⟨#[]⟩, .slice none 0 0, .slice none 0 0] 25)).alloc (.cells #[.int .i64 0, .int .i64 0] 40)).alloc (.cells #[.string ⟨#[61]⟩, .int .i64 0, .int .i64 0, .int .u8 0, .string ⟨#[]⟩, .int .i64 1] 63)).heap[w.heap.size + 1 + 1]? = some (.cells #[.string ⟨#[61]⟩, .int .i64 0, .int .i64 0, .int .u8 0, .string ⟨#[]⟩, .int .i64 1] 63 (0, 0)) := by
      have h := heap_alloc_new ((w.alloc (.cells #[.int .i64 0, .bool false, .int .i64 0, .string ⟨#[]⟩, .slice none 0 0, .slice none 0 0] 25)).alloc (.cells #[.int .i64 0, .int .i64 0] 40)) (.cells #[.string ⟨#[61]⟩, .int .i64 0, .int .i64 0, .int .u8 0, .string ⟨#[]⟩, .int .i64 1] 63)
      rwa [show ((w.alloc (.cells #[.int .i64 0, .bool false, .int .i64 0, .string ⟨#[]⟩, .slice none 0 0, .slice none 0 0] 25)).alloc (.cells #[.int .i64 0, .int .i64 0] 40)).heap.size = w.heap.size + 1 + 1 by simp] at h
    exact ⟨by rw [hs3]; omega, by rw [cell_of_row _ _ _ _ _ _ e2]; rfl, by rw [cell_of_row _ _ _ _ _ _ e2]; rfl, by rw [cell_of_row _ _ _ _ _ _ e2]; rfl, frozen_of_row _ _ 1 _ _ e2⟩
  generalize ((w.alloc (.cells #[.int .i64 0, .bool false, .int .i64 0, .string ⟨#[]⟩, .slice none 0 0, .slice none 0 0] 25)).alloc (.cells #[.int .i64 0, .int .i64 0] 40)).alloc (.cells #[.string ⟨#[61]⟩, .int .i64 0, .int .i64 0, .int .u8 0, .string ⟨#[]⟩, .int .i64 1] 63) = W3 at hb3 hs3 e0 e1 htok ⊢
  refine (tableQ _ _ htok).mono ?_
  rintro e w1 ⟨rfl, hb1⟩
  have htok1 := htok.keep hb1
  have hbw1 := hb3.trans (hb1.mono (by omega))
  have hs1 := hb1.size
  have htok2 := htok1.keep ((Below.refl w1.heap.size w1).alloc (Nat.le_refl _) (.cells #[.int .i64 0, .bool false, .int .i64 0, .string ⟨#[]⟩, .slice none 0 0, .slice none 0 0] 25))
  have e0 := (hb1.block w.heap.size (by omega)).trans e0
  have e1 := (hb1.block (w.heap.size + 1) (by omega)).trans e1
  unfold nilV
  go_wp2_with fail
  have hba : Below w1.heap.size w1 (w1.alloc (.cells #[.int .i64 0, .bool false, .int .i64 0, .string ⟨#[]⟩, .slice none 0 0, .slice none 0 0] 25)) := (Below.refl _ _).alloc (Nat.le_refl _) _
  refine (posQ _ _ htok2).mono ?_
  rintro e w2 ⟨rfl, hb2⟩
  have hbw2 := hba.trans (hb2.mono hba.size)
  have hbw := hbw1.trans (hbw2.mono hbw1.size)
  have e0 := (hbw2.block w.heap.size (by omega)).trans e0
  have e1 := (hbw2.block (w.heap.size + 1) (by omega)).trans e1
  have hs2 := hbw2.size
  clear hba hb2 htok htok1 htok2 hb1 hbw1 hbw2 hb3
  obtain ⟨⟨c0, f0⟩, ⟨c1, f1⟩, ⟨c2, f2⟩, ⟨c3, f3⟩, ⟨c4, f4⟩, ⟨c5, f5⟩⟩ := zero6 e0
  have z0 : w2.cell? ⟨w.heap.size + 1, 0, none⟩ = some (.int .i64 0) := by rw [cell_of_row _ _ _ _ _ _ e1]; rfl
  have z1 : w2.cell? ⟨w.heap.size + 1, 1, none⟩ = some (.int .i64 0) := by rw [cell_of_row _ _ _ _ _ _ e1]; rfl
  have z2 : w2.frozen? ⟨w.heap.size + 1, 0, none⟩ = false := frozen_of_row w2 _ 0 _ _ e1
  have z3 : w2.frozen? ⟨w.heap.size + 1, 1, none⟩ = false := frozen_of_row w2 _ 1 _ _ e1
  go_wp2_with fail
  rw [setCell_id c0, setCell_id c1, setCell_id c2, setCell_id c3, setCell_id c4, setCell_id c5]
  (try simp only [Exit.inBlock, Exit.then])
  refine bodyPost_ret (v := .tuple #[nilV, .agg #[.int .i64 1, .int .i64 1], .int .i64 8]) ?_ rfl ⟨rfl, (hbw.setCell (p := ⟨w.heap.size + 1, 0, none⟩) (by simp) _).setCell (p := ⟨w.heap.size + 1, 1, none⟩) (by simp) _⟩
  unfold nilV
  simp [results, Tryz.results12, go_sem, c0, c1, c2, c3, c4, c5, z0, z1]
set_option maxRecDepth 100000 in
set_option maxHeartbeats 400000 in
theorem awakeConf_any (w : World) : Calls Tryz.prog 5 #[] w fun e w' => e = .returned (.bool true) ∧ Below w.heap.size w w' := by
  go_enter Tryz.func5, Tryz.ntmps5
  go_wp2_with fail
  refine (parseQ _).mono ?_
  rintro e w1 ⟨rfl, hb1⟩
  unfold nilV
  go_wp2_with fail
  go_ret
  exact ⟨rfl, (hb1.alloc hb1.size _).alloc (by simp; exact Nat.le_succ_of_le hb1.size) _⟩
end Go.Proofs.YthmggjgfbhicgaaGreatDoor
