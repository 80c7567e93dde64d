/- DERIVED. asset.state.take. No condition. -/
import Derived.Test.YthlkibadiiiohaaDoorRows
import Derived.WalkKit
import Derived.WalkSpells
import Derived.WalkLawsBesides
import Derived.WalkSmall
import Derived.Laws.Rows
import Derived.Laws.BitsLemmas
import Derived.Laws.IdiomStrings
import Derived.Laws.IdiomCopy
import Derived.RegionTactic
import Derived.BigRegion
import Derived.Deep.RegionLaw
import Derived.Deep.RegionHeld3
import Derived.Handy
import Derived.OneCell
import Derived.Lib.Hide
import Derived.Lib.BufferMore
import Derived.Laws.CopyOwn
namespace Go.Proofs.YthlkibadiiiohaaDoor
open Go.RowKit
set_option linter.unusedVariables false
set_option linter.unusedSimpArgs false
def stT : TypeId := 45
def stC (a b c d : Int) : Obj := .cells #[.int .u32 a, .int .u32 b, .int .u32 c, .int .u32 d] 45 (0, 0)
/-- All but block q is as it was. -/
structure Oth (q : Nat) (w w' : World) : Prop where
  os : w'.os = w.os
  tape : w'.tape = w.tape
  output : w'.output = w.output
  size : w'.heap.size = w.heap.size
  block : ∀ b, b ≠ q → w'.heap[b]? = w.heap[b]?
theorem Oth.refl (q : Nat) (w : World) : Oth q w w := ⟨rfl, rfl, rfl, rfl, fun _ _ => rfl⟩
theorem Oth.trans {q : Nat} {w w1 w2 : World} (h : Oth q w w1) (k : Oth q w1 w2) : Oth q w w2 := ⟨k.os.trans h.os, k.tape.trans h.tape, k.output.trans h.output, k.size.trans h.size, fun b hb => (k.block b hb).trans (h.block b hb)⟩
theorem Oth.drew {q : Nat} {w w' : World} (h : Oth q w w') : Oth q w w'.drew := ⟨h.os, h.tape, h.output, h.size, h.block⟩
theorem Oth.below {q B : Nat} {w w' : World} (h : Oth q w w') (hB : B ≤ q) : Below B w w' := ⟨h.os, h.tape, h.output, Nat.le_of_eq h.size.symm, fun b hb => h.block b (by omega)⟩
theorem Oth.setCell {q i : Nat} {w w' : World} (h : Oth q w w') (v : Value) : Oth q w (w'.setCell ⟨q, i, none⟩ v) := by
  have hb := (Below.refl 0 w').setCell (p := ⟨q, i, none⟩) (Nat.zero_le _) v
  exact ⟨hb.os.trans h.os, hb.tape.trans h.tape, hb.output.trans h.output, by rw [← h.size]; simp, fun b hne => (Below.heap_setCell _ _ _ _ hne).trans (h.block b hne)⟩
theorem st_cells {w : World} {q : Nat} {a b c d : Int} (h : w.heap[q]? = some (stC a b c d)) : (w.cell? ⟨q, 0, none⟩ = some (.int .u32 a) ∧ w.cell? ⟨q, 1, none⟩ = some (.int .u32 b) ∧ w.cell? ⟨q, 2, none⟩ = some (.int .u32 c) ∧ w.cell? ⟨q, 3, none⟩ = some (.int .u32 d)) ∧ ∀ i, w.frozen? ⟨q, i, none⟩ = false :=
  ⟨⟨cell_of_row w q 0 _ _ _ h, cell_of_row w q 1 _ _ _ h, cell_of_row w q 2 _ _ _ h, cell_of_row w q 3 _ _ _ h⟩, fun i => Lib.frozen_of_heap h i⟩
theorem st_drew {w : World} {q : Nat} {o : Obj} (h : w.heap[q]? = some o) : w.drew.heap[q]? = some o := h
theorem st_set0 {w : World} {q : Nat} {a b c d x : Int} (h : w.heap[q]? = some (stC a b c d)) : (w.setCell ⟨q, 0, none⟩ (.int .u32 x)).heap[q]? = some (stC x b c d) := heap_setCell_same w q 0 _ _ _ h
theorem st_set1 {w : World} {q : Nat} {a b c d x : Int} (h : w.heap[q]? = some (stC a b c d)) : (w.setCell ⟨q, 1, none⟩ (.int .u32 x)).heap[q]? = some (stC a x c d) := heap_setCell_same w q 1 _ _ _ h
theorem st_set2 {w : World} {q : Nat} {a b c d x : Int} (h : w.heap[q]? = some (stC a b c d)) : (w.setCell ⟨q, 2, none⟩ (.int .u32 x)).heap[q]? = some (stC a b x d) := heap_setCell_same w q 2 _ _ _ h
theorem st_set3 {w : World} {q : Nat} {a b c d x : Int} (h : w.heap[q]? = some (stC a b c d)) : (w.setCell ⟨q, 3, none⟩ (.int .u32 x)).heap[q]? = some (stC a b c x) := heap_setCell_same w q 3 _ _ _ h
theorem step_copy_to {P : Program} {ops : Array Oper} {o : Oper} {a : Act} {w w' : World} {v : Value} {K : Act → World → Prop} {Q : Exit → Act → World → Prop} {E : Prop} (hgd : o.guard = none) (d s : Operand) (dT sT : TypeId)
    (ho : o.op = .call { callee := .builtin .copy, args := #[d, s], argTypes := #[dT, sT] }) (hrun : (Builtin.copy_ #[dT, sT] o.type #[a.eval d, a.eval s]).run P w = .ok v w')
    (h : K (a.put o.dst v) w') : if Region.wanted o (yielded ops a.tmps) = true then Oper.wp P o a w K Q else E := by
  have hw : Region.wanted o (yielded ops a.tmps) = true := by simp [Region.wanted, hgd]
  rw [if_pos hw]
  unfold Oper.wp
  simp [execOp, ho, resolve, invoke, builtin, hrun, Result.andThen]
  exact h
/-- copy(d[:], d[1:]) of a state. -/
theorem copy_st (q : Nat) (a b c d : Int) (w : World) (ty : TypeId) (h : w.heap[q]? = some (stC a b c d)) :
    (Builtin.copy_ #[56, 56] ty #[.slice (some ⟨q, 0, none⟩) 4 4, .slice (some ⟨q, 1, none⟩) 3 3]).run Tryd.prog w = .ok (goInt 3) (((w.setCell ⟨q, 0, none⟩ (.int .u32 b)).setCell ⟨q, 1, none⟩ (.int .u32 c)).setCell ⟨q, 2, none⟩ (.int .u32 d)) := by
  obtain ⟨⟨x0, x1, x2, x3⟩, hf⟩ := st_cells h
  exact run_copy_cells (P := Tryd.prog) w _ _ ty 43 q 0 4 4 ⟨q, 1, none⟩ 3 3 [.int .u32 b, .int .u32 c, .int .u32 d] Tryd.underlying56 (by kernel_rfl) rfl
    (fun j v hj => by
      match j with
      | 0 => cases hj; exact x1
      | 1 => cases hj; exact x2
      | 2 => cases hj; exact x3
      | k + 3 => cases hj)
    (fun j hj => by
      match j with
      | 0 => rw [show 0 + 0 = 0 from rfl, x0]; rfl
      | 1 => rw [show 0 + 1 = 1 from rfl, x1]; rfl
      | 2 => rw [show 0 + 2 = 2 from rfl, x2]; rfl
      | k + 3 => simp at hj; omega)
    (fun j hj => hf _) (by simp [Value.oneCell'])
theorem step_copy_st {ops : Array Oper} {o : Oper} {a : Act} {w : World} {K : Act → World → Prop} {Q : Exit → Act → World → Prop} {E : Prop} (hgd : o.guard = none) (d s : Operand)
    (ho : o.op = .call { callee := .builtin .copy, args := #[d, s], argTypes := #[56, 56] }) (q : Nat) (x0 x1 x2 x3 : Int) (hd : a.eval d = .slice (some ⟨q, 0, none⟩) 4 4) (hs : a.eval s = .slice (some ⟨q, 1, none⟩) 3 3) (hq : w.heap[q]? = some (stC x0 x1 x2 x3))
    (h : K (a.put o.dst (goInt 3)) (((w.setCell ⟨q, 0, none⟩ (.int .u32 x1)).setCell ⟨q, 1, none⟩ (.int .u32 x2)).setCell ⟨q, 2, none⟩ (.int .u32 x3))) : if Region.wanted o (yielded ops a.tmps) = true then Oper.wp Tryd.prog o a w K Q else E :=
  step_copy_to hgd d s _ _ ho (by rw [hd, hs]; exact copy_st q x0 x1 x2 x3 w _ hq) h
def tkP (a x : Int) : Int := (a + x) % 4294967296 * 16777619 % 4294967296
def tkQ (b p : Int) : Int := (b + p) % 4294967296 * 2654435761 % 4294967296
def tkR (c q : Int) : Int := (bits .xor .u32 c q + 374761393) % 4294967296
def tkT (d r x : Int) : Int := (d + (9 * r + x)) % 4294967296
set_option maxRecDepth 100000 in
set_option maxHeartbeats 6000000 in
theorem take_any (q : Nat) (a b c d x : Int) (w : World) (hx : 0 ≤ x ∧ x < 256) (h : w.heap[q]? = some (stC a b c d)) :
    Calls Tryd.prog 19 #[.pointer (some ⟨q, 0, none⟩), .int .u8 x] w fun e w' => e = .returned (.tuple #[]) ∧ Oth q w w' ∧ w'.heap[q]? = some (stC (tkQ b (tkP a x)) (tkR c (tkQ b (tkP a x))) (tkT d (tkR c (tkQ b (tkP a x))) x) (tkP a x)) := by
  unfold tkP tkQ tkR tkT
  obtain ⟨Z, hZ⟩ : ∃ Z, Z = stC ((b + (a + x) % 4294967296 * 16777619 % 4294967296) % 4294967296 * 2654435761 % 4294967296) ((bits .xor .u32 c ((b + (a + x) % 4294967296 * 16777619 % 4294967296) % 4294967296 * 2654435761 % 4294967296) + 374761393) % 4294967296) ((d + (9 * ((bits .xor .u32 c ((b + (a + x) % 4294967296 * 16777619 % 4294967296) % 4294967296 * 2654435761 % 4294967296) + 374761393) % 4294967296) + x)) % 4294967296) ((a + x) % 4294967296 * 16777619 % 4294967296) := ⟨_, rfl⟩
  rw [← hZ]
  have HZ := Lib.hid hZ
  clear hZ
  obtain ⟨⟨x0, x1, x2, x3⟩, hf⟩ := st_cells h
  have f0 := hf 0
  have f1 := hf 1
  have hc : IntKind.u32.wrap x = x := by rw [IntKind.wrap_u32]; omega
  clear hf
  have H := Lib.hid h
  clear h
  go_enter Tryd.func19, Tryd.ntmps19
  go_wp2_with fail
  go_region
  have hA := st_drew (st_set0 (x := (a + x) % 4294967296 * 16777619 % 4294967296) H.out)
  have oA := ((Oth.refl q w).setCell (i := 0) (.int .u32 ((a + x) % 4294967296 * 16777619 % 4294967296))).drew
  generalize (a + x) % 4294967296 * 16777619 % 4294967296 = p1 at hA oA HZ ⊢
  generalize (w.setCell ⟨q, 0, none⟩ (.int .u32 p1)).drew = w1 at hA oA ⊢
  clear x0 x1 x2 x3 f0 f1 H
  obtain ⟨⟨x0, x1, x2, x3⟩, hf⟩ := st_cells hA
  have f1 := hf 1
  have H := Lib.hid hA
  have O := Lib.hid oA
  clear hf hA oA
  go_wp2_with fail
  go_region
  have hA := st_drew (st_set1 (x := (b + p1) % 4294967296 * 2654435761 % 4294967296) H.out)
  have oA := O.out.trans (((Oth.refl q w1).setCell (i := 1) (.int .u32 ((b + p1) % 4294967296 * 2654435761 % 4294967296))).drew)
  generalize (b + p1) % 4294967296 * 2654435761 % 4294967296 = q1 at hA oA HZ ⊢
  generalize (w1.setCell ⟨q, 1, none⟩ (.int .u32 q1)).drew = w2 at hA oA ⊢
  clear x0 x1 x2 x3 f1 H O
  obtain ⟨⟨x0, x1, x2, x3⟩, hf⟩ := st_cells hA
  have f2 := hf 2
  have H := Lib.hid hA
  have O := Lib.hid oA
  clear hf hA oA
  obtain ⟨y, hy⟩ : ∃ y, bits .xor .u32 c q1 = y := ⟨_, rfl⟩
  rw [hy] at HZ
  go_wp2_with fail
  go_region
  have hA := st_drew (st_set2 (x := (y + 374761393) % 4294967296) H.out)
  have oA := O.out.trans (((Oth.refl q w2).setCell (i := 2) (.int .u32 ((y + 374761393) % 4294967296))).drew)
  generalize (y + 374761393) % 4294967296 = r1 at hA oA HZ ⊢
  generalize (w2.setCell ⟨q, 2, none⟩ (.int .u32 r1)).drew = w3 at hA oA ⊢
  clear x0 x1 x2 x3 f2 H O
  obtain ⟨⟨x0, x1, x2, x3⟩, hf⟩ := st_cells hA
  have f3 := hf 3
  have H := Lib.hid hA
  have O := Lib.hid oA
  clear hf hA oA
  go_wp2_with fail
  go_region
  have hA := st_drew (st_set3 (x := (d + (9 * r1 + x)) % 4294967296) H.out)
  have oA := O.out.trans (((Oth.refl q w3).setCell (i := 3) (.int .u32 ((d + (9 * r1 + x)) % 4294967296))).drew)
  generalize (d + (9 * r1 + x)) % 4294967296 = t1 at hA oA HZ ⊢
  generalize (w3.setCell ⟨q, 3, none⟩ (.int .u32 t1)).drew = w4 at hA oA ⊢
  clear x0 x1 x2 x3 f3 H O
  obtain ⟨⟨x0, x1, x2, x3⟩, hf⟩ := st_cells hA
  have H := Lib.hid hA
  have O := Lib.hid oA
  clear hf hA oA
  go_wp2_with fail
  go_region_law (refine step_copy_st (by rfl) (.tmp 63) (.tmp 66) (by rfl) q p1 q1 r1 t1 (by rfl) (by rfl) (by first | exact H.out | exact st_drew H.out) ?_)
  all_goals (
    have hA := st_drew (st_set2 (x := t1) (st_set1 (x := r1) (st_set0 (x := q1) H.out)))
    have oA := O.out.trans (((((Oth.refl q w4).setCell (i := 0) (.int .u32 q1)).setCell (i := 1) (.int .u32 r1)).setCell (i := 2) (.int .u32 t1)).drew)
    generalize (((w4.setCell ⟨q, 0, none⟩ (.int .u32 q1)).setCell ⟨q, 1, none⟩ (.int .u32 r1)).setCell ⟨q, 2, none⟩ (.int .u32 t1)).drew = w5 at hA oA ⊢
    clear x0 x1 x2 x3 H O
    obtain ⟨⟨x0, x1, x2, x3⟩, hf⟩ := st_cells hA
    have f3 := hf 3
    have H := Lib.hid hA
    have O := Lib.hid oA
    clear hf hA oA
    go_wp2_with fail
    go_end0
    exact ⟨rfl, O.out.trans ((Oth.refl q w5).setCell (i := 3) (.int .u32 p1)), by rw [HZ.out]; exact st_set3 (x := p1) H.out⟩)
end Go.Proofs.YthlkibadiiiohaaDoor
