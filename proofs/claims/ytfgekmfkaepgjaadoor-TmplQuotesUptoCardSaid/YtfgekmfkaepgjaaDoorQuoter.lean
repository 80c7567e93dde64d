/- DERIVED. The writer of constants of the web's script: what its text method leaves in it. Condition: what it holds takes at most 2^47 bytes. -/
import Derived.Test.YtfgekmfkaepgjaaDoorQPlain
import Derived.Laws.AppendOwn
import Derived.Lib.AppendStr
import Derived.Lib.UnsafeStr
import Derived.Lib.OthersKept
import Derived.Deep.AppendLies
import Derived.Deep.RegionLaw
import Derived.Deep.RegionWith
import Derived.BigRegion
import Derived.BigQuiet
import Derived.Deep.QuietTactic
import Derived.WalkSmall
import Derived.OwnWalk
import Derived.Maps.AppendAt
import Derived.Lib.IndexAny
namespace Go.Proofs.YtfgekmfkaepgjaaDoor
set_option linter.unusedVariables false
open Go.RowKit
def bcells (l : List UInt8) : List Value := Lib.byteCells l
theorem bcells_len (l : List UInt8) : (bcells l).length = l.length := Lib.byteCells_length l
theorem bcells_app (a b : List UInt8) : bcells (a ++ b) = bcells a ++ bcells b := Lib.byteCells_append a b
def qmost : Value := .int .i64 9223372036854775807
theorem u8Info : (Tryd.prog.info? 5).map (fun i => (i.zero, i.size, i.bytes)) = some (some (.int .u8 0), 1, 1) := by kernel_rfl
/-- The writer in block b holds the bytes l, as the slice v of the call's own (from B on). -/
structure QAt (B b : Nat) (l : List UInt8) (v : Value) (w : World) : Prop where
  lo : B ≤ b
  blk : w.heap[b]? = some (.cells #[v, .int .i64 9223372036854775807] 47 (0, 0))
  row : w.ownsRow B 5 1 v l.length (bcells l)
theorem QAt.lt {B b : Nat} {l : List UInt8} {v : Value} {w : World} (h : QAt B b l v w) : b < w.heap.size := (Array.getElem?_eq_some_iff.1 h.blk).1
theorem own_kind {w : World} {B : Nat} {e : TypeId} {v : Value} {n : Nat} {xs : List Value} (h : w.ownsRow B e 1 v n xs) : ∀ g, v.ownBlock = some g → ∃ c fz, w.heap[g]? = some (.cells c e fz) := by
  intro g hg
  rcases h.2 with ⟨rfl, _⟩ | ⟨g', cap, cur, rfl, _, hgg, _⟩
  · simp [Value.ownBlock] at hg
  · simp [Value.ownBlock] at hg
    subst hg
    exact ⟨cur, _, hgg⟩
theorem QAt.ne {B b : Nat} {l : List UInt8} {v : Value} {w : World} (h : QAt B b l v w) : some b ≠ v.ownBlock := fun e => by
  obtain ⟨c, fz, hc⟩ := own_kind h.row b e.symm
  rw [h.blk] at hc
  have := Option.some.inj hc
  simp only [Obj.cells.injEq] at this
  exact absurd this.2.1 (by decide)
theorem QAt.cell {B b : Nat} {l : List UInt8} {v : Value} {w : World} (h : QAt B b l v w) : w.cell? ⟨b, 0, none⟩ = some v := by rw [cell_of_row _ _ _ _ _ _ h.blk]; rfl
theorem QAt.cell1 {B b : Nat} {l : List UInt8} {v : Value} {w : World} (h : QAt B b l v w) : w.cell? ⟨b, 1, none⟩ = some (.int .i64 9223372036854775807) := by rw [cell_of_row _ _ _ _ _ _ h.blk]; rfl
theorem QAt.frozen {B b : Nat} {l : List UInt8} {v : Value} {w : World} (h : QAt B b l v w) : w.frozen? ⟨b, 0, none⟩ = false := by
  unfold World.frozen?
  simp only [h.blk]
  rfl
theorem QAt.below {B b : Nat} {l : List UInt8} {v : Value} {w w' : World} (h : QAt B b l v w) (hb : Below w.heap.size w w') : QAt B b l v w' := by
  refine ⟨h.lo, (hb.block b h.lt).trans h.blk, ?_⟩
  refine h.row.kept (row := none) ⟨hb.os, hb.tape, hb.output, hb.size, fun q hq _ => hb.block q hq⟩ ?_
  cases hv : v.ownBlock with
  | none => exact .inl rfl
  | some g => exact .inr (by simp)
theorem QAt.alloc {B b : Nat} {l : List UInt8} {v : Value} {w : World} (h : QAt B b l v w) (o : Obj) : QAt B b l v (w.alloc o) := h.below ((Below.refl _ _).alloc (Nat.le_refl _) o)
theorem QAt.of {B b : Nat} {l l' : List UInt8} {v : Value} {w : World} (h : QAt B b l v w) (e : l = l') : QAt B b l' v w := e ▸ h
/-- What a call that writes in it leaves as it was. -/
structure Fr (B b : Nat) (w w' : World) : Prop where
  bel : Below B w w'
  oth : Lib.OthersKept 5 (some b) w w'
theorem Fr.refl (B b : Nat) (w : World) : Fr B b w w := ⟨Below.refl _ _, Lib.OthersKept.refl _ _ _⟩
theorem Fr.trans {B b : Nat} {a c d : World} (h : Fr B b a c) (k : Fr B b c d) : Fr B b a d := ⟨h.bel.trans k.bel, h.oth.trans k.oth⟩
theorem Fr.of_below {B b : Nat} {w w' : World} (h : Below w.heap.size w w') (hB : B ≤ w.heap.size) : Fr B b w w' :=
  ⟨h.mono hB, fun k o hk _ _ => (h.block k (Array.getElem?_eq_some_iff.1 hk).1).trans hk⟩
theorem Fr.alloc {B b : Nat} {w : World} (o : Obj) (hB : B ≤ w.heap.size) : Fr B b w (w.alloc o) := Fr.of_below ((Below.refl _ _).alloc (Nat.le_refl _) o) hB
theorem QAt.step {B b n : Nat} {l xs : List UInt8} {v v' : Value} {w w2 : World} (h : QAt B b l v w) (hown' : w2.ownsRow B 5 1 v' n (bcells l ++ bcells xs)) (hn : n = l.length + xs.length) (hgrow : w.grownBy w2 v.ownBlock) :
    w2.cell? ⟨b, 0, none⟩ = some v ∧ w2.frozen? ⟨b, 0, none⟩ = false ∧ QAt B b (l ++ xs) v' (w2.setCell ⟨b, 0, none⟩ v') ∧ Fr B b w (w2.setCell ⟨b, 0, none⟩ v') := by
  have hblk : w2.heap[b]? = some (.cells #[v, .int .i64 9223372036854775807] 47 (0, 0)) := (hgrow.block b h.lt h.ne).trans h.blk
  refine ⟨by rw [cell_of_row _ _ _ _ _ _ hblk]; rfl, by unfold World.frozen?; simp only [hblk]; rfl, ⟨h.lo, ?_, ?_⟩, ⟨?_, ?_⟩⟩
  · simp [World.setCell, Array.getElem?_modify, hblk]
  · have e : w2.ownsRow B 5 1 v' (l ++ xs).length (bcells (l ++ xs)) := by rw [bcells_app, List.length_append, ← hn]; exact hown'
    have hne : v'.ownBlock ≠ some b := fun e2 => by
      obtain ⟨c, fz, hc⟩ := own_kind hown' b e2
      rw [hblk] at hc
      have := Option.some.inj hc
      simp only [Obj.cells.injEq] at this
      exact absurd this.2.1 (by decide)
    exact e.kept (row := some b) ⟨rfl, rfl, rfl, by simp [World.setCell], fun k _ hk => Below.heap_setCell _ _ _ _ (fun e => hk (by simp [e]))⟩ (Or.inr hne)
  · exact ((Below.refl B w).grown hgrow (by have := h.lo; have := h.lt; omega) (fun k hk => (h.row.lt k hk).1)).setCell (p := ⟨b, 0, none⟩) h.lo _
  · exact ((Lib.OthersKept.refl 5 (some b) w).grown hgrow (fun g hg => own_kind h.row g hg)).setCell ⟨b, 0, none⟩ rfl _
theorem slice_own {w : World} {B : Nat} {e : TypeId} {v : Value} {n : Nat} {xs : List Value} (h : w.ownsRow B e 1 v n xs) : ∃ ao cp, v = .slice ao n cp := by
  rcases h.2 with ⟨rfl, rfl⟩ | ⟨g, cap, cur, rfl, _⟩
  · exact ⟨_, _, rfl⟩
  · exact ⟨_, _, rfl⟩
/-- append(own row, string...) at a step of a region that draws its order. -/
theorem step_append_str {P : Program} {w : World} {ops : Array Oper} {o : Oper} {a : Act} {K : Act → World → Prop} {Q : Exit → Act → World → Prop} {E : Prop} (hgd : o.guard = none) (sl x : Operand) (t u : TypeId)
    (ho : o.op = .call { callee := .builtin .append, args := #[sl, x], argTypes := #[t, u] })
    (base : Nat) (e : TypeId) (i : TypeInfo) (ht : P.underlying t = some (.slice e)) (hu : P.underlying u = some .string) (hi : P.info? e = some i) (hz : i.zero = some (.int .u8 0))
    (hsize : i.size = 1) (hby : i.bytes = 1)
    (v : Value) (n : Nat) (xs : List Value) (hs : a.eval sl = v) (hown : w.ownsRow base e 1 v n xs) (s : ByteArray) (hx : a.eval x = .string s)
    (h63 : n + s.size ≤ maxLen) (hbytes : n + s.size ≤ 140737488355328) (hbase : base ≤ w.heap.size)
    (h : ∀ v' w', w'.ownsRow base e 1 v' (n + s.size) (xs ++ Lib.strCells s) → w.grownBy w' v.ownBlock → K (a.put o.dst v') w') :
    if Region.wanted o (yielded ops a.tmps) = true then Oper.wp P o a w K Q else E := by
  have hw : Region.wanted o (yielded ops a.tmps) = true := by simp [Region.wanted, hgd]
  rw [if_pos hw]
  obtain ⟨v', w', hr, h2, h3, h4⟩ := Lib.run_append_own_string (P := P) w base t u o.type e i ht hu hi hz hsize hby v n xs hown s h63 hbytes hbase
  unfold Oper.wp execOp
  simp only [ho, resolve, invoke, builtin, Sem.run_bind, Sem.run_pure, Result.andThen_ok, List.map_toArray, List.map_cons, List.map_nil, hs, hx, hr]
  exact h v' w' h2 h3
theorem news1 (w : World) (x : Value) (e : TypeId) (b : Nat) (h : b = w.heap.size) : ∀ j u, [x][j]? = some u → (w.alloc (.cells #[x] e)).cell? ((⟨b, 0, none⟩ : Addr).add j) = some u := by
  subst h
  exact cell_one_new _ _ _
theorem news2 (w : World) (x y : Value) (e : TypeId) : ∀ j u, [x, y][j]? = some u → (w.alloc (.cells #[x, y] e)).cell? ((⟨w.heap.size, 0, none⟩ : Addr).add j) = some u :=
  World.news_of_block (cs := #[x, y]) (t := e) (fr := (0, 0)) (by show (w.heap.push _)[w.heap.size]? = _; exact Array.getElem?_push_size)
theorem ib4 (c : UInt8) (w : World) : Calls Tryd.prog 28 #[.string ⟨#[60, 62, 38, 39]⟩, .int .u8 c.toNat] w fun e w' => e = .returned (.int .i64 (Lib.indexByte (ByteArray.mk #[60, 62, 38, 39]).data.toList c)) ∧ w' = w := by
  have h := Tryd.strings_IndexByte ⟨#[60, 62, 38, 39]⟩ c.toNat w
  rwa [show ((c.toNat : Int)).toNat.toUInt8 = c by simp] at h
theorem con4 (c : UInt8) : qset.contains c = decide (0 ≤ Lib.indexByte (ByteArray.mk #[60, 62, 38, 39]).data.toList c) := Lib.contains_iff_indexByte _ c
end Go.Proofs.YtfgekmfkaepgjaaDoor
