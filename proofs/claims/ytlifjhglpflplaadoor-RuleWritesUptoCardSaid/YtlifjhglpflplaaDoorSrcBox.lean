/- DERIVED. A captured variable that holds an own row of strings; what a call that appends to it keeps. No condition. -/
import Derived.Test.YtlifjhglpflplaaDoorSrcC
import Derived.Deep.RegionHeld3
import Derived.Deep.AppendLies
import Derived.RegionTactic
import Derived.ChangeAlike
import Derived.BigRegion
import Derived.Handy
import Derived.OneCell
set_option linter.unusedSimpArgs false
set_option linter.unusedVariables false
namespace Go.Proofs.YtlifjhglpflplaaDoor
open Go.RowKit
def strs (l : List ByteArray) : List Value := l.map Value.string
/-- The variable in block q, one of the call's own (from B on), holds a slice of the strings l. -/
structure Box (B q : Nat) (l : List ByteArray) (v : Value) (w : World) : Prop where
  lo : B ≤ q
  blk : w.heap[q]? = some (.cells #[v] 42 (0, 0))
  row : w.ownsRow B 9 1 v l.length (strs l)
  ne : v.ownBlock ≠ some q
theorem Box.lt {B q : Nat} {l : List ByteArray} {v : Value} {w : World} (h : Box B q l v w) : q < w.heap.size := (Array.getElem?_eq_some_iff.1 h.blk).1
theorem Box.cell {B q : Nat} {l : List ByteArray} {v : Value} {w : World} (h : Box B q l v w) : w.cell? ⟨q, 0, none⟩ = some v := by rw [Lib.cell_of_heap h.blk]; rfl
theorem Box.frozen {B q : Nat} {l : List ByteArray} {v : Value} {w : World} (h : Box B q l v w) : w.frozen? ⟨q, 0, none⟩ = false := Lib.frozen_of_heap h.blk 0
theorem row_below {w w' : World} {base : Nat} {e : TypeId} {size : Nat} {v : Value} {n : Nat} {xs : List Value} (h : w.ownsRow base e size v n xs) (hb : Below w.heap.size w w') : w'.ownsRow base e size v n xs := by
  refine h.kept (row := none) ⟨hb.os, hb.tape, hb.output, hb.size, fun q hq _ => hb.block q hq⟩ ?_
  cases hv : v.ownBlock with
  | none => exact .inl rfl
  | some g => exact .inr (by simp)
theorem Box.below {B q : Nat} {l : List ByteArray} {v : Value} {w w' : World} (h : Box B q l v w) (hb : Below w.heap.size w w') : Box B q l v w' := ⟨h.lo, (hb.block q h.lt).trans h.blk, row_below h.row hb, h.ne⟩
theorem slice_of_own {w : World} {base : Nat} {e : TypeId} {size : Nat} {v : Value} {n : Nat} {xs : List Value} (h : w.ownsRow base e size v n xs) : ∃ A c, v = .slice A n c := by
  rcases h.2 with ⟨rfl, rfl⟩ | ⟨g, cap, cur, rfl, _⟩
  · exact ⟨_, _, rfl⟩
  · exact ⟨_, _, rfl⟩
theorem new_one (w : World) (d : ByteArray) (t : TypeId) : ∀ j u, [Value.string d][j]? = some u → (w.alloc (.cells #[.string d] t)).cell? ((⟨w.heap.size, 0, none⟩ : Addr).add j) = some u :=
  World.news_of_block (cs := #[.string d]) (t := t) (fr := (0, 0)) (by show (w.heap.push _)[w.heap.size]? = _; exact Array.getElem?_push_size)
theorem box_after {B q gg cap2 : Nat} {l : List ByteArray} {v : Value} {d : ByteArray} {w2 : World} (hblk : w2.heap[q]? = some (.cells #[v] 42 (0, 0))) (hown : w2.ownsRow B 9 1 (.slice (some ⟨gg, 0, none⟩) (l.length + 1) cap2) (l.length + 1) (strs l ++ [.string d]))
    (hne : gg ≠ q) (hlo : B ≤ q) : Box B q (l ++ [d]) (.slice (some ⟨gg, 0, none⟩) (l.length + 1) cap2) (w2.setCell ⟨q, 0, none⟩ (.slice (some ⟨gg, 0, none⟩) (l.length + 1) cap2)) where
  lo := hlo
  blk := one_setCell hblk
  row := by
    have h := hown.kept (w' := w2.setCell ⟨q, 0, none⟩ (.slice (some ⟨gg, 0, none⟩) (l.length + 1) cap2)) (row := some q)
      ⟨((Below.refl 0 w2).setCell (p := ⟨q, 0, none⟩) (Nat.zero_le _) _).os, ((Below.refl 0 w2).setCell (p := ⟨q, 0, none⟩) (Nat.zero_le _) _).tape, ((Below.refl 0 w2).setCell (p := ⟨q, 0, none⟩) (Nat.zero_le _) _).output, by simp, fun k _ hk => Below.heap_setCell _ _ _ _ (fun e => hk (by rw [e]))⟩
      (.inr (by simpa [Value.ownBlock] using hne))
    rw [List.length_append]
    unfold strs
    rw [List.map_append]
    exact h
  ne := by simpa [Value.ownBlock] using hne
theorem cell_new {w : World} (o : Obj) {p : Addr} (h : p.block < w.heap.size) : (w.alloc o).drew.cell? p = w.cell? p := ((Below.refl _ w).alloc (Nat.le_refl _) o).drew.cell h
theorem frozen_new {w : World} (o : Obj) {p : Addr} (h : p.block < w.heap.size) : (w.alloc o).drew.frozen? p = w.frozen? p := ((Below.refl _ w).alloc (Nat.le_refl _) o).drew.frozen h
/-- What such a call leaves as it was: all blocks but the variable's and its row's. -/
structure Wr (q : Nat) (v v' : Value) (w w' : World) : Prop where
  os : w'.os = w.os
  tape : w'.tape = w.tape
  output : w'.output = w.output
  size : w.heap.size ≤ w'.heap.size
  block : ∀ b, b < w.heap.size → b ≠ q → v.ownBlock ≠ some b → w'.heap[b]? = w.heap[b]?
  own : ∀ b, v'.ownBlock = some b → v.ownBlock = some b ∨ w.heap.size ≤ b
theorem Wr.of_below {q : Nat} {v : Value} {w w' : World} (h : Below w.heap.size w w') : Wr q v v w w' := ⟨h.os, h.tape, h.output, h.size, fun b hb _ _ => h.block b hb, fun b hb => .inl hb⟩
theorem Wr.trans {q : Nat} {v v1 v2 : Value} {w w1 w2 : World} (h : Wr q v v1 w w1) (k : Wr q v1 v2 w1 w2) : Wr q v v2 w w2 :=
  ⟨k.os.trans h.os, k.tape.trans h.tape, k.output.trans h.output, Nat.le_trans h.size k.size,
    fun b hb hq hv => (k.block b (Nat.lt_of_lt_of_le hb h.size) hq (fun e => (h.own b e).elim hv (fun h1 => absurd h1 (by omega)))).trans (h.block b hb hq hv),
    fun b hb => (k.own b hb).elim (fun h1 => h.own b h1) (fun h1 => .inr (Nat.le_trans h.size h1))⟩
theorem Wr.below {B q : Nat} {l : List ByteArray} {v v' : Value} {w w' : World} (h : Wr q v v' w w') (hb : Box B q l v w) (hB : B ≤ w.heap.size) : Below B w w' :=
  ⟨h.os, h.tape, h.output, h.size, fun b hlt => h.block b (by omega) (by have := hb.lo; omega) (fun e => by have := (hb.row.lt b e).1; omega)⟩
end Go.Proofs.YtlifjhglpflplaaDoor
