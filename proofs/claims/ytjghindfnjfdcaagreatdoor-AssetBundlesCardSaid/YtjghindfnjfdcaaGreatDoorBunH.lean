/- DERIVED. What Bundle returns, and rows of the call's own. No condition. -/
import Derived.Test.YtjghindfnjfdcaaGreatDoorBunB
import Derived.RegionTactic
import Derived.BigRegion
import Derived.Deep.RegionLaw
import Derived.Deep.Cut
import Derived.Deep.AppendLies
import Derived.Handy
import Derived.OneCell
namespace Go.Proofs.YtjghindfnjfdcaaGreatDoor
open Go.RowKit
set_option linter.unusedVariables false
set_option linter.unusedSimpArgs false
/-- What Bundle returns. -/
def BunPost (L : List (ByteArray × ByteArray)) (w : World) (e : Ending) (w' : World) : Prop := ∃ Pv Ev, e = .returned (.tuple #[.agg #[.string (boB L), Pv, Ev], .int .i64 (boE L)]) ∧ w'.ownsRow w.heap.size 9 1 Pv (boP L).length (svs (boP L)) ∧ w'.ownsRow w.heap.size 3 1 Ev (boZ L).length (ivs (boZ L)) ∧ Below w.heap.size w w'
theorem bunPost_bad {L : List (ByteArray × ByteArray)} {w w' : World} {x : Int} (h : boE L = x) (hx : x ≠ 0) (hb : Below w.heap.size w w') : BunPost L w (.returned (.tuple #[.agg #[.string ⟨#[]⟩, .slice none 0 0, .slice none 0 0], .int .i64 x])) w' := by
  have h0 : ¬ boE L = 0 := by rw [h]; exact hx
  refine ⟨.slice none 0 0, .slice none 0 0, ?_, ?_, ?_, hb⟩
  · unfold boB; rw [if_neg h0, h]
  · unfold boP; rw [if_neg h0]; exact World.ownsRow_nil _ _ _ _
  · unfold boZ; rw [if_neg h0]; exact World.ownsRow_nil _ _ _ _
/-- The bundle's box, as it was laid. -/
def Zb (b : Nat) (w : World) : Prop := w.heap[b]? = some (.cells #[.string ⟨#[]⟩, .slice none 0 0, .slice none 0 0] 26 (0, 0))
theorem Zb.below {b n : Nat} {w w' : World} (h : Zb b w) (hb : Below n w w') (hn : b < n) : Zb b w' := (hb.block b hn).trans h
theorem Zb.rows {b : Nat} {w : World} (h : Zb b w) : RowsAt b b ⟨#[]⟩ (.slice none 0 0) [] (.slice none 0 0) [] w := ⟨Nat.le_refl _, h, World.ownsRow_nil _ _ _ _, World.ownsRow_nil _ _ _ _⟩
theorem zb_set {b : Nat} {w : World} {x y z : Value} (h : w.heap[b]? = some (.cells #[x, y, z] 26 (0, 0))) (x' y' z' : Value) : (((w.setCell ⟨b, 0, none⟩ x').setCell ⟨b, 1, none⟩ y').setCell ⟨b, 2, none⟩ z').heap[b]? = some (.cells #[x', y', z'] 26 (0, 0)) := by simp [World.setCell, Array.getElem?_modify, h]
theorem zb_cells {b : Nat} {w : World} {x y z : Value} (h : w.heap[b]? = some (.cells #[x, y, z] 26 (0, 0))) : w.cell? ⟨b, 0, none⟩ = some x ∧ w.cell? ⟨b, 1, none⟩ = some y ∧ w.cell? ⟨b, 2, none⟩ = some z := by
  have k : ∀ j, w.cell? ⟨b, j, none⟩ = (#[x, y, z] : Array Value)[j]? := fun j => cell_of_row _ _ _ _ _ _ h
  exact ⟨k 0, k 1, k 2⟩
theorem below_set3 {B b : Nat} {w w' : World} (h : Below B w w') (hb : B ≤ b) (x y z : Value) : Below B w (((w'.setCell ⟨b, 0, none⟩ x).setCell ⟨b, 1, none⟩ y).setCell ⟨b, 2, none⟩ z) :=
  ((h.setCell (p := ⟨b, 0, none⟩) hb x).setCell (p := ⟨b, 1, none⟩) hb y).setCell (p := ⟨b, 2, none⟩) hb z
/-- A file's copy in a block. -/
def Fb (b : Nat) (p q : ByteArray) (w : World) : Prop := w.heap[b]? = some (.cells #[.string p, .string q] 37 (0, 0))
theorem Fb.cells {b : Nat} {p q : ByteArray} {w : World} (h : Fb b p q w) : w.cell? ⟨b, 0, none⟩ = some (.string p) ∧ w.cell? ⟨b, 1, none⟩ = some (.string q) := by
  have k : ∀ j, w.cell? ⟨b, j, none⟩ = (#[.string p, .string q] : Array Value)[j]? := fun j => cell_of_row _ _ _ _ _ _ h
  exact ⟨k 0, k 1⟩
theorem own_form_s {w : World} {B n : Nat} {v : Value} {ps : List ByteArray} (h : w.ownsRow B 9 1 v n (svs ps)) (hn : ps.length = n) : ∃ A c, v = .slice A n c ∧ n ≤ c ∧ c ≤ maxLen ∧ StrRow w w.heap.size A ps := by
  rcases h.2 with ⟨rfl, h0⟩ | ⟨g, cap, cur, rfl, hb, hg, hn2, hm, hz, ht⟩
  · refine ⟨none, 0, by rw [h0], by omega, Nat.zero_le _, .inl (List.eq_nil_of_length_eq_zero (by omega))⟩
  · refine ⟨_, cap, rfl, hn2, hm, .inr ⟨g, 0, rfl, (Array.getElem?_eq_some_iff.1 hg).1, fun j x hx => ?_⟩⟩
    have hjn : j < n := by have := (List.getElem?_eq_some_iff.1 hx).1; omega
    rw [Nat.zero_add, h.cellAt j (by omega)]
    unfold svs
    rw [List.getElem?_map, hx]
    rfl
theorem own_form_i {w : World} {B n : Nat} {v : Value} {zs : List Int} (h : w.ownsRow B 3 1 v n (ivs zs)) : ∃ A c, v = .slice A n c := by
  rcases h.2 with ⟨rfl, h0⟩ | ⟨g, cap, cur, rfl, _⟩
  · exact ⟨none, 0, by rw [h0]⟩
  · exact ⟨_, _, rfl⟩
theorem own_lowU {w : World} {B B' n : Nat} {e : TypeId} {v : Value} {l : List Value} (h : w.ownsRow B e 1 v n l) (hB : B' ≤ B) : w.ownsRow B' e 1 v n l := by
  refine ⟨h.1, ?_⟩
  rcases h.2 with h1 | ⟨g, cap, cur, hv, hb, hr⟩
  · exact .inl h1
  · exact .inr ⟨g, cap, cur, hv, by omega, hr⟩
theorem own_setU {w : World} {B b j n : Nat} {e : TypeId} {v x : Value} {l : List Value} (h : w.ownsRow B e 1 v n l) (hb : b < B) : (w.setCell ⟨b, j, none⟩ x).ownsRow B e 1 v n l := by
  refine h.kept (row := some b) ⟨rfl, rfl, rfl, by simp [World.setCell], fun k _ hk => Below.heap_setCell _ _ _ _ (fun e => hk (by simp [e]))⟩ (Or.inr fun e => ?_)
  have := (h.lt b e).1
  omega
theorem own_set3U {w : World} {B b n : Nat} {e : TypeId} {v x y z : Value} {l : List Value} (h : w.ownsRow B e 1 v n l) (hb : b < B) : (((w.setCell ⟨b, 0, none⟩ x).setCell ⟨b, 1, none⟩ y).setCell ⟨b, 2, none⟩ z).ownsRow B e 1 v n l :=
  own_setU (own_setU (own_setU h hb) hb) hb
theorem own_lowF {w : World} {B B' n : Nat} {e : TypeId} {v : Value} {l : List Value} (h : w.ownsRowF B e 1 v n l) (hB : B' ≤ B) : w.ownsRowF B' e 1 v n l := by
  refine ⟨h.1, ?_⟩
  rcases h.2 with h1 | ⟨g, cap, cur, fz, hv, hb, hr⟩
  · exact .inl h1
  · exact .inr ⟨g, cap, cur, fz, hv, by omega, hr⟩
theorem bd_lower {T e : TypeId} {B B' b : Nat} {bs : List Value} {w : World} (h : Lib.IsBuilderF T e B b bs w) (hB : B' ≤ B) : Lib.IsBuilderF T e B' b bs w := by
  have key : ∀ q, Lib.BuilderAtF T e B b q bs w → Lib.BuilderAtF T e B' b q bs w := fun q h => by
    obtain ⟨hb, v, hv, hown, hne⟩ := h
    exact ⟨by omega, v, hv, own_lowF hown hB, hne⟩
  exact h.elim (fun x => .inl (key _ x)) (fun x => .inr (key _ x))
end Go.Proofs.YtjghindfnjfdcaaGreatDoor
