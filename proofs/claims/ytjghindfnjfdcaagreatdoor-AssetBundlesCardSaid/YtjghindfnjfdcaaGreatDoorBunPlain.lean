/- DERIVED. Bundles of files: plain mathematics, and what is kept by what is written besides. No condition. -/
import Derived.Test.YtjghindfnjfdcaaGreatDoorPaths7
import Derived.Lib.Strings
import Derived.Laws.AppendOwn
import Derived.Lib.FrozenHead
import Derived.Lib.OthersKept
namespace Go.Proofs.YtjghindfnjfdcaaGreatDoor
open Go.RowKit
set_option linter.unusedVariables false
/-- Whether a line feed is put behind a body. -/
def sfx (x : ByteArray) : Bool := !(x.toList == []) && !(Lib.hasSuffix x.data.toList [10])
def bdl (x : ByteArray) : List UInt8 := x.data.toList ++ (if sfx x = true then [10] else [])
def bcat (L : List (ByteArray × ByteArray)) : List UInt8 := (L.map fun p => bdl p.2).flatten
theorem bcat_snoc (L : List (ByteArray × ByteArray)) (p : ByteArray × ByteArray) : bcat (L ++ [p]) = bcat L ++ bdl p.2 := by simp [bcat]
def bends (L : List (ByteArray × ByteArray)) (k : Nat) : List Int := (List.range k).map fun j => ((bcat (L.take (j + 1))).length : Int)
theorem bends_succ (L : List (ByteArray × ByteArray)) (k : Nat) : bends L (k + 1) = bends L k ++ [((bcat (L.take (k + 1))).length : Int)] := by
  unfold bends
  rw [List.range_succ, List.map_append]; rfl
theorem bends_len (L : List (ByteArray × ByteArray)) (k : Nat) : (bends L k).length = k := by unfold bends; simp
theorem take_next {α : Type} {l : List α} {k : Nat} {p : α} (h : l[k]? = some p) : l.take (k + 1) = l.take k ++ [p] := by
  rw [List.take_add_one, h]; rfl
def bpaths (L : List (ByteArray × ByteArray)) : List ByteArray := L.map Prod.fst
def anyL (L : List (ByteArray × ByteArray)) : Bool := L.any fun p => decide (20000 < p.2.size)
theorem anyL_at {L : List (ByteArray × ByteArray)} (h : anyL L = false) {k : Nat} {p : ByteArray × ByteArray} (hk : L[k]? = some p) : p.2.size ≤ 20000 := by
  unfold anyL at h
  rw [List.any_eq_false] at h
  have := h p (List.mem_of_getElem? hk)
  simp at this
  omega
theorem bdl_len (x : ByteArray) : (bdl x).length ≤ x.size + 1 := by
  unfold bdl
  rw [List.length_append, show x.data.toList.length = x.size from Array.length_toList]
  split <;> simp
theorem bcat_len {L : List (ByteArray × ByteArray)} (h : anyL L = false) : ∀ k, (bcat (L.take k)).length ≤ 20001 * k
  | 0 => by simp [bcat]
  | k + 1 => by
    have h1 := bcat_len h k
    cases hk : L[k]? with
    | none =>
      have : L.length ≤ k := List.getElem?_eq_none_iff.1 hk
      rw [List.take_of_length_le (by omega), ← List.take_of_length_le this]
      omega
    | some p =>
      rw [take_next hk, bcat_snoc, List.length_append]
      have h2 := bdl_len p.2
      have h3 := anyL_at h hk
      omega
/-- What Bundle says of the parts. -/
def boE (L : List (ByteArray × ByteArray)) : Int := if 40 < L.length ∨ anyL L = true then 4 else if pathsE (bpaths L) ≠ 0 then pathsE (bpaths L) else if 200000 < (bcat L).length then 4 else 0
def boB (L : List (ByteArray × ByteArray)) : ByteArray := if boE L = 0 then ⟨(bcat L).toArray⟩ else ⟨#[]⟩
def boP (L : List (ByteArray × ByteArray)) : List ByteArray := if boE L = 0 then bpaths L else []
def boZ (L : List (ByteArray × ByteArray)) : List Int := if boE L = 0 then bends L L.length else []
/-- Rows of the call's own, and what is written besides. -/
theorem own_keep {w w' : World} {B n s : Nat} {e : TypeId} {v : Value} {l : List Value} (h : w.ownsRow B e s v n l) (hf : ∀ (g : Nat) (c : Array Value), w.heap[g]? = some (.cells c e (0, 0)) → w'.heap[g]? = w.heap[g]?) : w'.ownsRow B e s v n l := by
  refine ⟨h.1, ?_⟩
  rcases h.2 with h1 | ⟨g, cap, cur, hv, hb, hg, hr⟩
  · exact .inl h1
  · exact .inr ⟨g, cap, cur, hv, hb, (hf g cur hg).trans hg, hr⟩
theorem ownF_keep {w w' : World} {B n s : Nat} {e : TypeId} {v : Value} {l : List Value} (h : w.ownsRowF B e s v n l) (hf : ∀ (g : Nat) (c : Array Value) (fz : Nat × Nat), w.heap[g]? = some (.cells c e fz) → w'.heap[g]? = w.heap[g]?) : w'.ownsRowF B e s v n l := by
  refine ⟨h.1, ?_⟩
  rcases h.2 with h1 | ⟨g, cap, cur, fz, hv, hb, hg, hr⟩
  · exact .inl h1
  · exact .inr ⟨g, cap, cur, fz, hv, hb, (hf g cur fz hg).trans hg, hr⟩
theorem bd_keep {w w' : World} {T e : TypeId} {B b : Nat} {bs : List Value} (h : Lib.IsBuilderF T e B b bs w) (hf : ∀ (g : Nat) (c : Array Value) (t : TypeId) (fz : Nat × Nat), t = T ∨ t = e → w.heap[g]? = some (.cells c t fz) → w'.heap[g]? = w.heap[g]?) : Lib.IsBuilderF T e B b bs w' := by
  have key : ∀ q, Lib.BuilderAtF T e B b q bs w → Lib.BuilderAtF T e B b q bs w' := fun q h => by
    obtain ⟨hB, v, hv, hown, hne⟩ := h
    exact ⟨hB, v, (hf b _ T _ (.inl rfl) hv).trans hv, ownF_keep hown fun g c fz hg => hf g c e fz (.inr rfl) hg, hne⟩
  exact h.elim (fun x => .inl (key _ x)) (fun x => .inr (key _ x))
/-- A block of a type is another than one of another type. -/
theorem ne_type {w : World} {a b : Nat} {c d : Array Value} {s t : TypeId} {f g : Nat × Nat} (ha : w.heap[a]? = some (.cells c s f)) (hb : w.heap[b]? = some (.cells d t g)) (h : s ≠ t) : a ≠ b := fun e => by
  subst e
  rw [ha] at hb
  have := Option.some.inj hb
  simp only [Obj.cells.injEq] at this
  exact h this.2.1
theorem row_type {w : World} {B e n s : Nat} {v : Value} {l : List Value} (h : w.ownsRow B e s v n l) : ∀ g, v.ownBlock = some g → ∃ c, w.heap[g]? = some (.cells c e (0, 0)) := by
  intro g hg
  rcases h.2 with ⟨rfl, _⟩ | ⟨g', cap, cur, rfl, _, hgg, _⟩
  · simp [Value.ownBlock] at hg
  · simp [Value.ownBlock] at hg
    subst hg
    exact ⟨cur, hgg⟩
/-- What a row that grew has left: the blocks of another type. -/
theorem grown_keep {w w' : World} {B e n s : Nat} {v : Value} {l : List Value} (h : w.ownsRow B e s v n l) (hg : w.grownBy w' v.ownBlock) {t : TypeId} (ht : t ≠ e) : ∀ (g : Nat) (c : Array Value) (fz : Nat × Nat), w.heap[g]? = some (.cells c t fz) → w'.heap[g]? = w.heap[g]? := fun g c fz hc => by
  refine hg.block g (Array.getElem?_eq_some_iff.1 hc).1 (fun hx => ?_)
  obtain ⟨c', hc'⟩ := row_type h g hx.symm
  exact ne_type hc hc' ht rfl
theorem others_keep {w w' : World} {e : TypeId} {b : Nat} (hk : Lib.OthersKept e (some b) w w') {cb : Array Value} {T : TypeId} {fb : Nat × Nat} (hb : w.heap[b]? = some (.cells cb T fb)) {t : TypeId} (h1 : t ≠ e) (h2 : t ≠ T) : ∀ (g : Nat) (c : Array Value) (fz : Nat × Nat), w.heap[g]? = some (.cells c t fz) → w'.heap[g]? = w.heap[g]? := fun g c fz hc => by
  rw [hc]
  refine hk g _ hc (fun hx => ?_) (fun c' fz' hx => ?_)
  · have hgb : g = b := Option.some.inj hx
    exact ne_type hc hb h2 hgb
  · rw [Obj.cells.injEq] at hx
    exact h1 hx.2.1
theorem set_keep (w : World) (b j : Nat) (v : Value) {cb : Array Value} {T : TypeId} {fb : Nat × Nat} (hb : w.heap[b]? = some (.cells cb T fb)) {t : TypeId} (h2 : t ≠ T) : ∀ (g : Nat) (c : Array Value) (fz : Nat × Nat), w.heap[g]? = some (.cells c t fz) → (w.setCell ⟨b, j, none⟩ v).heap[g]? = w.heap[g]? := fun g c fz hc =>
  Below.heap_setCell _ _ _ _ (ne_type hc hb h2)
theorem alloc_keep (w : World) (o : Obj) : ∀ (g : Nat) (x : Obj), w.heap[g]? = some x → (w.alloc o).heap[g]? = w.heap[g]? := fun g x hx => Below.heap_alloc _ _ _ (Array.getElem?_eq_some_iff.1 hx).1
end Go.Proofs.YtjghindfnjfdcaaGreatDoor
