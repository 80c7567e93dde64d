/- DERIVED. What asset.Bundle keeps while it joins parts. No condition. -/
import Derived.Test.YtjghindfnjfdcaaGreatDoorBunA
import Derived.Test.YtjghindfnjfdcaaGreatDoorBuilderO
namespace Go.Proofs.YtjghindfnjfdcaaGreatDoor
open Go.RowKit
set_option linter.unusedVariables false
set_option linter.unusedSimpArgs false
def svs (ps : List ByteArray) : List Value := ps.map Value.string
def ivs (zs : List Int) : List Value := zs.map (Value.int .i64)
/-- The bundle in block a: a body, and rows of the call's own from B on. -/
structure RowsAt (B a : Nat) (body : ByteArray) (Pv : Value) (ps : List ByteArray) (Ev : Value) (zs : List Int) (w : World) : Prop where
  lo : B ≤ a
  blk : w.heap[a]? = some (.cells #[.string body, Pv, Ev] 26 (0, 0))
  par : w.ownsRow B 9 1 Pv ps.length (svs ps)
  en : w.ownsRow B 3 1 Ev zs.length (ivs zs)
theorem RowsAt.lt {B a : Nat} {body : ByteArray} {Pv Ev : Value} {ps : List ByteArray} {zs : List Int} {w : World} (h : RowsAt B a body Pv ps Ev zs w) : a < w.heap.size := (Array.getElem?_eq_some_iff.1 h.blk).1
theorem RowsAt.keep {B a : Nat} {body : ByteArray} {Pv Ev : Value} {ps : List ByteArray} {zs : List Int} {w w' : World} (h : RowsAt B a body Pv ps Ev zs w)
    (hf : ∀ (g : Nat) (c : Array Value) (t : TypeId) (fz : Nat × Nat), t = 26 ∨ t = 9 ∨ t = 3 → w.heap[g]? = some (.cells c t fz) → w'.heap[g]? = w.heap[g]?) : RowsAt B a body Pv ps Ev zs w' :=
  ⟨h.lo, (hf a _ _ _ (.inl rfl) h.blk).trans h.blk, own_keep h.par fun g c hg => hf g c _ _ (.inr (.inl rfl)) hg, own_keep h.en fun g c hg => hf g c _ _ (.inr (.inr rfl)) hg⟩
theorem RowsAt.alloc {B a : Nat} {body : ByteArray} {Pv Ev : Value} {ps : List ByteArray} {zs : List Int} {w : World} (h : RowsAt B a body Pv ps Ev zs w) (o : Obj) : RowsAt B a body Pv ps Ev zs (w.alloc o) :=
  h.keep fun g c t fz _ hg => alloc_keep w o g _ hg
theorem RowsAt.below {B a : Nat} {body : ByteArray} {Pv Ev : Value} {ps : List ByteArray} {zs : List Int} {w w' : World} (h : RowsAt B a body Pv ps Ev zs w) (hb : Below w.heap.size w w') : RowsAt B a body Pv ps Ev zs w' :=
  h.keep fun g c t fz _ hg => hb.block g (Array.getElem?_eq_some_iff.1 hg).1
theorem RowsAt.others {B a b : Nat} {body : ByteArray} {Pv Ev : Value} {ps : List ByteArray} {zs : List Int} {w w' : World} (h : RowsAt B a body Pv ps Ev zs w) (hk : Lib.OthersKept 5 (some b) w w') {cb : Array Value} {fb : Nat × Nat} (hb : w.heap[b]? = some (.cells cb 35 fb)) : RowsAt B a body Pv ps Ev zs w' :=
  h.keep fun g c t fz ht hg => by
    rcases ht with rfl | rfl | rfl
    · exact others_keep hk hb (by decide) (by decide) g c fz hg
    · exact others_keep hk hb (by decide) (by decide) g c fz hg
    · exact others_keep hk hb (by decide) (by decide) g c fz hg
theorem RowsAt.cells {B a : Nat} {body : ByteArray} {Pv Ev : Value} {ps : List ByteArray} {zs : List Int} {w : World} (h : RowsAt B a body Pv ps Ev zs w) : w.cell? ⟨a, 0, none⟩ = some (.string body) ∧ w.cell? ⟨a, 1, none⟩ = some Pv ∧ w.cell? ⟨a, 2, none⟩ = some Ev ∧ w.frozen? ⟨a, 0, none⟩ = false ∧ w.frozen? ⟨a, 1, none⟩ = false ∧ w.frozen? ⟨a, 2, none⟩ = false := by
  refine ⟨?_, ?_, ?_, ?_, ?_, ?_⟩
  · rw [cell_of_row _ _ _ _ _ _ h.blk]; rfl
  · rw [cell_of_row _ _ _ _ _ _ h.blk]; rfl
  · rw [cell_of_row _ _ _ _ _ _ h.blk]; rfl
  · unfold World.frozen?; simp only [h.blk]; rfl
  · unfold World.frozen?; simp only [h.blk]; rfl
  · unfold World.frozen?; simp only [h.blk]; rfl
/-- Another body. -/
theorem RowsAt.setBody {B a : Nat} {body : ByteArray} {Pv Ev : Value} {ps : List ByteArray} {zs : List Int} {w : World} (h : RowsAt B a body Pv ps Ev zs w) (s : ByteArray) : RowsAt B a s Pv ps Ev zs (w.setCell ⟨a, 0, none⟩ (.string s)) :=
  ⟨h.lo, by simp [World.setCell, Array.getElem?_modify, h.blk], own_keep h.par fun g c hg => set_keep w a 0 _ h.blk (by decide) g c _ hg, own_keep h.en fun g c hg => set_keep w a 0 _ h.blk (by decide) g c _ hg⟩
/-- One path more, behind the append. -/
theorem RowsAt.putPath {B a : Nat} {body x : ByteArray} {Pv Pv' Ev : Value} {ps : List ByteArray} {zs : List Int} {w w' : World} (h : RowsAt B a body Pv ps Ev zs w) (hown : w'.ownsRow B 9 1 Pv' (ps.length + 1) (svs ps ++ [.string x])) (hg : w.grownBy w' Pv.ownBlock) :
    (w'.heap[a]? = some (.cells #[.string body, Pv, Ev] 26 (0, 0)) ∧ RowsAt B a body Pv' (ps ++ [x]) Ev zs (w'.setCell ⟨a, 1, none⟩ Pv')) := by
  have hblk : w'.heap[a]? = some (.cells #[.string body, Pv, Ev] 26 (0, 0)) := (grown_keep h.par hg (by decide) a _ _ h.blk).trans h.blk
  refine ⟨hblk, h.lo, by simp [World.setCell, Array.getElem?_modify, hblk], ?_, ?_⟩
  · have e : w'.ownsRow B 9 1 Pv' (ps ++ [x]).length (svs (ps ++ [x])) := by
      rw [List.length_append]; unfold svs; rw [List.map_append]; exact hown
    exact own_keep e fun g c hg => set_keep w' a 1 _ hblk (by decide) g c _ hg
  · have e : w'.ownsRow B 3 1 Ev zs.length (ivs zs) := own_keep h.en fun g c hg' => grown_keep h.par hg (by decide) g c _ hg'
    exact own_keep e fun g c hg => set_keep w' a 1 _ hblk (by decide) g c _ hg
/-- One end more, behind the append. -/
theorem RowsAt.putEnd {B a : Nat} {body : ByteArray} {x : Int} {Pv Ev Ev' : Value} {ps : List ByteArray} {zs : List Int} {w w' : World} (h : RowsAt B a body Pv ps Ev zs w) (hown : w'.ownsRow B 3 1 Ev' (zs.length + 1) (ivs zs ++ [.int .i64 x])) (hg : w.grownBy w' Ev.ownBlock) :
    w'.heap[a]? = some (.cells #[.string body, Pv, Ev] 26 (0, 0)) ∧ RowsAt B a body Pv ps Ev' (zs ++ [x]) (w'.setCell ⟨a, 2, none⟩ Ev') := by
  have hblk : w'.heap[a]? = some (.cells #[.string body, Pv, Ev] 26 (0, 0)) := (grown_keep h.en hg (by decide) a _ _ h.blk).trans h.blk
  refine ⟨hblk, h.lo, by simp [World.setCell, Array.getElem?_modify, hblk], ?_, ?_⟩
  · have e : w'.ownsRow B 9 1 Pv ps.length (svs ps) := own_keep h.par fun g c hg' => grown_keep h.en hg (by decide) g c _ hg'
    exact own_keep e fun g c hg => set_keep w' a 2 _ hblk (by decide) g c _ hg
  · have e : w'.ownsRow B 3 1 Ev' (zs ++ [x]).length (ivs (zs ++ [x])) := by
      rw [List.length_append]; unfold ivs; rw [List.map_append]; exact hown
    exact own_keep e fun g c hg => set_keep w' a 2 _ hblk (by decide) g c _ hg
abbrev BdF (B b : Nat) (l : List UInt8) (w : World) : Prop := Lib.IsBuilderF 35 5 B b (Lib.byteCells l) w
theorem bdF_blk {B b : Nat} {l : List UInt8} {w : World} (h : BdF B b l w) : ∃ c, w.heap[b]? = some (.cells c 35 (0, 0)) := by
  rcases h with ⟨_, v, hv, _⟩ | ⟨_, v, hv, _⟩
  · exact ⟨_, hv⟩
  · exact ⟨_, hv⟩
/-- What an append to a row of another type, or a store into the bundle, leaves of the writer. -/
theorem bdF_grown {B b n s : Nat} {l : List UInt8} {w w' : World} {e : TypeId} {v : Value} {xs : List Value} (h : BdF B b l w) (hr : w.ownsRow B e s v n xs) (hg : w.grownBy w' v.ownBlock) (h1 : e ≠ 35) (h2 : e ≠ 5) : BdF B b l w' :=
  bd_keep h fun g c t fz ht hc => by
    rcases ht with rfl | rfl
    · exact grown_keep hr hg (Ne.symm h1) g c fz hc
    · exact grown_keep hr hg (Ne.symm h2) g c fz hc
theorem bdF_set {B b a j : Nat} {l : List UInt8} {w : World} {ca : Array Value} (v : Value) (h : BdF B b l w) (ha : w.heap[a]? = some (.cells ca 26 (0, 0))) : BdF B b l (w.setCell ⟨a, j, none⟩ v) :=
  bd_keep h fun g c t fz ht hc => by
    rcases ht with rfl | rfl
    · exact set_keep w a j v ha (by decide) g c fz hc
    · exact set_keep w a j v ha (by decide) g c fz hc
theorem bdF_alloc {B b : Nat} {l : List UInt8} {w : World} (h : BdF B b l w) (o : Obj) : BdF B b l (w.alloc o) := Lib.IsBuilderF.alloc h o
theorem strInfoB : (Tryz.prog.info? 9).map (fun i => (i.zero, i.size, i.bytes)) = some (some (.string ⟨#[]⟩), 1, 16) := by kernel_rfl
theorem intInfoB : (Tryz.prog.info? 3).map (fun i => (i.zero, i.size, i.bytes)) = some (some (.int .i64 0), 1, 8) := by kernel_rfl
theorem cell_one_bn (w : World) (b : Nat) (v : Value) (e : TypeId) (h : b = w.heap.size) : ∀ j u, [v][j]? = some u → (w.alloc (.cells #[v] e)).cell? ((⟨b, 0, none⟩ : Addr).add j) = some u := by
  subst h
  exact cell_one_new _ _ _
end Go.Proofs.YtjghindfnjfdcaaGreatDoor
