/- DERIVED. A document whose blocks meet a condition: how it is kept, how it is put together out of elements of one row. No condition. -/
import Derived.Test.YtmaahkonjpcgiabElem
import Derived.Deep.MidRow
import Derived.Shelf.Strings.BuilderK
set_option linter.unusedSimpArgs false
set_option linter.unusedVariables false
namespace Go.Proofs.Ytmaahkonjpcgiab
open Go.RowKit

def ndCells (k lv : Int) (t d ti : ByteArray) (A : Option Addr) (n c : Nat) : List Value := [.int .i64 k, .int .i64 lv, .string t, .string d, .string ti, .slice A n c]
namespace Doc
def AtP (w : World) (p : Nat → Prop) : Doc → Option Addr → Nat → Prop
  | .nil, _, n => n = 0
  | .cons k lv t d ti kids rest, A, n => ∃ (b off m : Nat) (A' : Option Addr) (n' c' : Nat), A = some ⟨b, off, none⟩ ∧ n = m + 1 ∧ p b ∧ w.rangeAt b off (ndCells k lv t d ti A' n' c') ∧ n' ≤ c' ∧ c' ≤ maxLen ∧
      (Lit.int .i64 k).wf = true ∧ (Lit.int .i64 lv).wf = true ∧ t.size ≤ maxLen ∧ d.size ≤ maxLen ∧ ti.size ≤ maxLen ∧ AtP w p kids A' n' ∧ AtP w p rest (some ⟨b, off + 6, none⟩) m
theorem AtP.keep {w w' : World} {p q : Nat → Prop} (hc : ∀ x : Addr, p x.block → w'.cell? x = w.cell? x) (hq : ∀ b, p b → q b) : ∀ {d : Doc} {A : Option Addr} {n : Nat}, AtP w p d A n → AtP w' q d A n
  | .nil, _, _, h => h
  | .cons .., _, _, ⟨b, off, m, A', n', c', h1, h2, hb, hr, h3, h4, h5, h6, h7, h8, h9, hk, ht⟩ =>
    ⟨b, off, m, A', n', c', h1, h2, hq b hb, fun j v hv => (hc ⟨b, off + j, none⟩ hb).trans (hr j v hv), h3, h4, h5, h6, h7, h8, h9, AtP.keep hc hq hk, AtP.keep hc hq ht⟩
theorem AtP.at_ {w : World} {p : Nat → Prop} {B : Nat} (hp : ∀ b, p b → b < B) : ∀ {d : Doc} {A : Option Addr} {n : Nat}, AtP w p d A n → At w B d A n
  | .nil, _, _, h => h
  | .cons .., _, _, ⟨b, off, m, A', n', c', h1, h2, hb, hr, h3, h4, h5, h6, h7, h8, h9, hk, ht⟩ =>
    ⟨b, off, m, A', n', c', h1, h2, hp b hb, hr 0 _ rfl, hr 1 _ rfl, hr 2 _ rfl, hr 3 _ rfl, hr 4 _ rfl, hr 5 _ rfl, h3, h4, h5, h6, h7, h8, h9, AtP.at_ hp hk, AtP.at_ hp ht⟩
end Doc
/-- The first element of a document lies in block R at an offset; its kids lie where p holds. -/
def ElP (w : World) (p : Nat → Prop) (R off : Nat) (a : Doc) : Prop :=
  ∃ k lv t d ti kids rest A' n' c', a = .cons k lv t d ti kids rest ∧ w.rangeAt R off (ndCells k lv t d ti A' n' c') ∧ n' ≤ c' ∧ c' ≤ maxLen ∧
      (Lit.int .i64 k).wf = true ∧ (Lit.int .i64 lv).wf = true ∧ t.size ≤ maxLen ∧ d.size ≤ maxLen ∧ ti.size ≤ maxLen ∧ kids.AtP w p A' n'
theorem ElP.keep {w w' : World} {p q : Nat → Prop} {R off : Nat} {a : Doc} (hr' : ∀ j, j < 6 → w'.cell? ⟨R, off + j, none⟩ = w.cell? ⟨R, off + j, none⟩) (hc : ∀ x : Addr, p x.block → w'.cell? x = w.cell? x) (hq : ∀ b, p b → q b) (h : ElP w p R off a) : ElP w' q R off a := by
  obtain ⟨k, lv, t, d, ti, kids, rest, A', n', c', h1, hr, h3, h4, h5, h6, h7, h8, h9, hk⟩ := h
  refine ⟨k, lv, t, d, ti, kids, rest, A', n', c', h1, fun j v hv => ?_, h3, h4, h5, h6, h7, h8, h9, hk.keep hc hq⟩
  have hj : j < 6 := (List.getElem?_eq_some_iff.1 hv).1
  exact (hr' j hj).trans (hr j v hv)
theorem Doc.AtP.of_els {w : World} {p q : Nat → Prop} {R : Nat} (hR : q R) (hpq : ∀ b, p b → q b) : ∀ (a : Doc) (o : Nat), (∀ j, j < a.len → ElP w p R (o + j * 6) (a.drop j)) → a.AtP w q (some ⟨R, o, none⟩) a.len
  | .nil, _, _ => rfl
  | .cons k lv t d ti kids rest, o, h => by
    obtain ⟨k1, lv1, t1, d1, ti1, kids1, rest1, A', n', c', h1, hr, h3, h4, h5, h6, h7, h8, h9, hk⟩ := h 0 (Nat.zero_lt_succ _)
    rw [Nat.zero_mul, Nat.add_zero] at hr
    have h1' : Doc.cons k lv t d ti kids rest = .cons k1 lv1 t1 d1 ti1 kids1 rest1 := h1
    cases h1'
    refine ⟨R, o, rest.len, A', n', c', rfl, rfl, hR, hr, h3, h4, h5, h6, h7, h8, h9, hk.keep (fun _ _ => rfl) hpq, ?_⟩
    refine Doc.AtP.of_els hR hpq rest (o + 6) fun j hj => ?_
    have := h (j + 1) (Nat.succ_lt_succ hj)
    rw [show o + 6 + j * 6 = o + (j + 1) * 6 by omega]
    exact this
theorem there_of {w : World} {b : Nat} {C : Array Value} {t : TypeId} (h : w.heap[b]? = some (.cells C t (0, 0))) : w.there b 0 C.size := fun j hj => by
  refine ⟨?_, Lib.frozen_of_heap h _⟩
  rw [Lib.cell_of_heap h, Nat.zero_add]
  simp [hj]
theorem there_keep {w w' : World} {b o n : Nat} (h : w.there b o n) (hb : w'.heap[b]? = w.heap[b]?) : w'.there b o n := fun j hj => by
  rw [World.cell?_of_block (w := w) hb, World.frozen?_of_block (w := w) hb]
  exact h j hj
theorem there_sub {w : World} {b n o m : Nat} (h : w.there b 0 n) (ho : o + m ≤ n) : w.there b o m := fun j hj => by
  have := h (o + j) (by omega)
  rwa [Nat.zero_add] at this
theorem below_setCells {B b : Nat} (hB : B ≤ b) : ∀ (vs : List Value) (o : Nat) {a w : World}, Below B a w → Below B a (w.setCells b o vs)
  | [], _, _, _, h => h
  | v :: r, o, _, w, h => below_setCells hB r (o + 1) (h.setCell (p := ⟨b, o, none⟩) hB v)
theorem size_setCells (b : Nat) : ∀ (vs : List Value) (o : Nat) (w : World), (w.setCells b o vs).heap.size = w.heap.size
  | [], _, _ => rfl
  | v :: r, o, w => by
    rw [World.setCells, size_setCells b r (o + 1)]
    simp
end Go.Proofs.Ytmaahkonjpcgiab
