/- DERIVED. The list of what conf's Compare has still to compare: what it stands for, where it lies. No condition. -/
import Derived.Test.YtfgekmfkaepgjaaConfBox
import Derived.StillTailTactics
import Derived.Deep.LoopGhost
import Derived.Maps.AppendAt
import Derived.Deep.RegionHeld3
import Derived.Deep.AppendLies
import Derived.Laws.OwnMore
namespace Go.Proofs.Ytfgekmfkaepgjaa
set_option linter.unusedVariables false
open Go.RowKit
/-- Two rows of values that are still to be compared, and where they lie. -/
structure VPr where
  a : Vals
  b : Vals
  A : Option Addr
  n : Nat
  c : Nat
  A' : Option Addr
  n' : Nat
  c' : Nat
def VPr.cells (p : VPr) : List Value := [.slice p.A p.n p.c, .slice p.A' p.n' p.c']
structure VPr.ok (p : VPr) (w : World) (B : Nat) : Prop where
  at1 : p.a.At w B p.A p.n
  at2 : p.b.At w B p.A' p.n'
  nc : p.n ≤ p.c
  cm : p.c ≤ maxLen
  nc' : p.n' ≤ p.c'
  cm' : p.c' ≤ maxLen
  la : p.a.letters ≤ 1099511627776
  lb : p.b.letters ≤ 1099511627776
  na : p.a.nodes ≤ 1099511627776
  nb : p.b.nodes ≤ 1099511627776
def vcells : List VPr → List Value
  | [] => []
  | p :: r => p.cells ++ vcells r
theorem vcells_app : ∀ (l r : List VPr), vcells (l ++ r) = vcells l ++ vcells r
  | [], r => rfl
  | p :: l, r => by simp [vcells, vcells_app l r]
theorem vcells_len : ∀ l : List VPr, (vcells l).length = l.length * 2
  | [] => rfl
  | p :: l => by simp [vcells, VPr.cells, vcells_len l]; omega
/-- The weight of what is still to be compared. -/
def vwt : List VPr → Nat
  | [] => 0
  | p :: r => 2 * p.a.nodes + 1 + vwt r
theorem vwt_app : ∀ (l r : List VPr), vwt (l ++ r) = vwt l + vwt r
  | [], r => by simp [vwt]
  | p :: l, r => by simp only [List.cons_append, vwt, vwt_app l r]; omega
theorem vwt_len : ∀ l : List VPr, l.length ≤ vwt l
  | [] => Nat.le_refl _
  | p :: l => by have := vwt_len l; simp only [List.length_cons, vwt]; omega
/-- What is still to be compared, the last one first. -/
def stackC : List VPr → Int
  | [] => 0
  | p :: r => if stackC r ≠ 0 then stackC r else p.a.cmp p.b
theorem stackC_snoc (p : VPr) : ∀ R : List VPr, stackC (R ++ [p]) = if p.a.cmp p.b ≠ 0 then p.a.cmp p.b else stackC R
  | [] => by
    simp only [List.nil_append, stackC, ne_eq, not_true, if_false]
    split
    · rfl
    · rename_i h; omega
  | q :: R => by
    simp only [List.cons_append, stackC, stackC_snoc p R]
    by_cases h : p.a.cmp p.b = 0
    · simp [h]
    · simp [h]
theorem snoc_last {l : List VPr} (h : 0 < l.length) : ∃ r p, l = r ++ [p] := by
  refine ⟨l.dropLast, l.getLast (by intro e; subst e; simp at h), ?_⟩
  exact (List.dropLast_concat_getLast _).symm
theorem stack_pop {R : List VPr} {p : VPr} {T : Int} (h : T = stackC (R ++ [p])) (hz : p.a.cmp p.b = 0) : T = stackC R := by rw [h, stackC_snoc, hz, if_neg (by simp)]
theorem stack_out {R : List VPr} {p : VPr} {T x : Int} (h : T = stackC (R ++ [p])) (hx : p.a.cmp p.b = x) (hz : ¬ x = 0) : T = x := by rw [h, stackC_snoc, hx, if_pos hz]
theorem stack_head {R : List VPr} {p : VPr} {T x : Int} {k : Int} {bo : Bool} {i : Int} {t : ByteArray} {it : Vals} {ks : List ByteArray} {r : Vals} {k' : Int} {bo' : Bool} {i' : Int} {t' : ByteArray} {it' : Vals} {ks' : List ByteArray} {r' : Vals}
    (h : T = stackC (R ++ [p])) (ha : p.a = .cons k bo i t it ks r) (hb : p.b = .cons k' bo' i' t' it' ks' r') (hx : cF k bo i t ks k' bo' i' t' ks' = x) (hz : ¬ x = 0) : T = x :=
  stack_out h (by rw [ha, hb]; simp only [Vals.cmp]; rw [hx, if_pos hz]) hz
theorem stack_push {R : List VPr} {p : VPr} {T : Int} {k : Int} {bo : Bool} {i : Int} {t : ByteArray} {it : Vals} {ks : List ByteArray} {r : Vals} {k' : Int} {bo' : Bool} {i' : Int} {t' : ByteArray} {it' : Vals} {ks' : List ByteArray} {r' : Vals}
    (h : T = stackC (R ++ [p])) (ha : p.a = .cons k bo i t it ks r) (hb : p.b = .cons k' bo' i' t' it' ks' r') (hx : cF k bo i t ks k' bo' i' t' ks' = 0) {q1 q2 : VPr} (g1 : q1.a = r) (g1' : q1.b = r') (g2 : q2.a = it) (g2' : q2.b = it') :
    T = stackC (R ++ [q1] ++ [q2]) := by
  have e : (Vals.cons k bo i t it ks r).cmp (.cons k' bo' i' t' it' ks' r') = if it.cmp it' ≠ 0 then it.cmp it' else r.cmp r' := by
    simp only [Vals.cmp]
    rw [if_neg (by rw [hx]; simp)]
  rw [h, stackC_snoc, ha, hb, e, stackC_snoc, stackC_snoc, g1, g1', g2, g2']
  by_cases h : it.cmp it' = 0
  · simp [h]
  · simp [h]
theorem cOne_stack (k : Int) (bo : Bool) (i : Int) (t : ByteArray) (it : Vals) (ks : List ByteArray) (k' : Int) (bo' : Bool) (i' : Int) (t' : ByteArray) (it' : Vals) (ks' : List ByteArray) (A : Option Addr) (n c : Nat) (A' : Option Addr) (n' c' : Nat) :
    cOne k bo i t it ks k' bo' i' t' it' ks' = stackC [⟨.cons k bo i t it ks .nil, .cons k' bo' i' t' it' ks' .nil, A, n, c, A', n', c'⟩] := by
  simp only [stackC, Vals.cmp, cOne, ne_eq, not_true, if_false]
  by_cases h : cF k bo i t ks k' bo' i' t' ks' = 0
  · by_cases h2 : it.cmp it' = 0
    · simp [h, h2]
    · simp [h, h2]
  · simp [h]

theorem vpair_info : (Try.prog.info? 62).map (fun i => (i.zero, i.size, i.bytes)) = some (some (.agg #[.slice none 0 0, .slice none 0 0]), 2, 48) := by kernel_rfl
theorem vown_val {w : World} {base n size : Nat} {v : Value} {xs : List Value} {e : TypeId} (h : w.ownsRow base e size v n xs) : ∃ A c, v = .slice A n c := by
  rcases h.2 with ⟨rfl, h0⟩ | ⟨g, cap, cur, rfl, _⟩
  · exact ⟨none, 0, by rw [h0]⟩
  · exact ⟨_, _, rfl⟩
theorem vown_pos {w : World} {base n size : Nat} {v : Value} {xs : List Value} {e : TypeId} (h : w.ownsRow base e size v n xs) (h0 : 0 < n) :
    ∃ g cap, v = .slice (some ⟨g, 0, none⟩) n cap ∧ base ≤ g ∧ g < w.heap.size ∧ n ≤ cap ∧ cap ≤ maxLen ∧ ∀ j u, xs[j]? = some u → w.cell? ⟨g, j, none⟩ = some u := by
  have hl := h.lt
  have h2 := h
  rcases h.2 with ⟨_, e0⟩ | ⟨g, cap, cur, rfl, hg, hh, hn, hm, _⟩
  · omega
  · refine ⟨g, cap, rfl, hg, (hl g rfl).2, hn, hm, fun j u hj => ?_⟩
    have := h2.cells (g := g) rfl j u hj
    by_cases h0 : j = 0
    · subst h0; simpa [Addr.add] using this
    · simpa [Addr.add, h0] using this
theorem vown_kept {w w1 : World} {base n size : Nat} {v : Value} {xs : List Value} {e : TypeId} (h : w.ownsRow base e size v n xs) (hb : Below w.heap.size w w1) : w1.ownsRow base e size v n xs := by
  obtain ⟨h1, h2⟩ := h
  refine ⟨h1, ?_⟩
  rcases h2 with h2 | ⟨g, cap, cur, a, b, c, d⟩
  · exact .inl h2
  · exact .inr ⟨g, cap, cur, a, b, (hb.block g ((Array.getElem?_eq_some_iff.1 c).1)).trans c, d⟩
theorem vnew_two (w1 : World) (u v : Value) : ∀ j x, [u, v][j]? = some x → ((w1.alloc (.cells #[u, v] 62)).drew).cell? ((⟨w1.heap.size, 0, none⟩ : Addr).add j) = some x := by
  intro j x hj
  show (w1.alloc (.cells #[u, v] 62)).cell? _ = _
  match j, hj with
  | 0, hj => simp at hj; subst hj; simp [Addr.add]
  | 1, hj => simp at hj; subst hj; simp [Addr.add]
  | j + 2, hj => simp at hj
theorem vcells_last (R : List VPr) (p : VPr) : (vcells (R ++ [p]))[R.length * 2]? = some (.slice p.A p.n p.c) ∧ (vcells (R ++ [p]))[R.length * 2 + 1]? = some (.slice p.A' p.n' p.c') := by
  rw [vcells_app, ← vcells_len]
  simp [vcells, VPr.cells]
theorem vcells_set (R : List VPr) (p : VPr) (A A' : Option Addr) (n c n' c' : Nat) (a b : Vals) :
    ((vcells (R ++ [p])).set (R.length * 2) (.slice A n c)).set (R.length * 2 + 1) (.slice A' n' c') = vcells (R ++ [⟨a, b, A, n, c, A', n', c'⟩]) := by
  rw [vcells_app, vcells_app, ← vcells_len]
  simp [vcells, VPr.cells]
theorem vown_one (w : World) (base : Nat) (hb : base ≤ w.heap.size) (u v : Value) : (w.alloc (.cells #[u, v] 62)).ownsRow base 62 2 (.slice (some ⟨w.heap.size, 0, none⟩) 1 1) 1 [u, v] :=
  ⟨rfl, .inr ⟨w.heap.size, 1, #[u, v], rfl, hb, heap_alloc_new w _, Nat.le_refl _, by decide, rfl, rfl⟩⟩
/-- What is left of a row behind its first value. -/
theorem At_rest {w : World} {B : Nat} {k : Int} {bo : Bool} {i : Int} {t : ByteArray} {it : Vals} {ks : List ByteArray} {r : Vals} {A : Option Addr} {n : Nat} (h : (Vals.cons k bo i t it ks r).At w B A n) :
    ∃ b off A1 n1 c1 A2 n2 c2, A = some ⟨b, off, none⟩ ∧ 0 < n ∧ VEl w B b off k bo i t A1 n1 c1 A2 n2 c2 it ks ∧ r.At w B (some ⟨b, off + 6, none⟩) (n - 1) := by
  obtain ⟨b, off, m, A1, n1, c1, A2, n2, c2, h1, h2, hb, x0, x1, x2, x3, x4, x5, h3, h4, h5, h6, h7, h8, h9, hk, hs, hr⟩ := h
  refine ⟨b, off, A1, n1, c1, A2, n2, c2, h1, by omega, ⟨hb, x0, x1, x2, x3, x4, x5, h3, h4, h5, h6, h7, h8, h9, hk, hs⟩, ?_⟩
  rw [h2, Nat.add_sub_cancel]
  exact hr
theorem VEl.more {w : World} {B B' b o : Nat} (hB : B ≤ B') {k : Int} {bo : Bool} {i : Int} {t : ByteArray} {A1 : Option Addr} {n1 c1 : Nat} {A2 : Option Addr} {n2 c2 : Nat} {items : Vals} {keys : List ByteArray}
    (h : VEl w B b o k bo i t A1 n1 c1 A2 n2 c2 items keys) : VEl w B' b o k bo i t A1 n1 c1 A2 n2 c2 items keys := ⟨Nat.lt_of_lt_of_le h.lt hB, h.x0, h.x1, h.x2, h.x3, h.x4, h.x5, h.ok.more hB⟩
theorem At_none {w : World} {B : Nat} {r : Vals} {A A' : Option Addr} (h : r.At w B A 0) : r.At w B A' 0 := by
  cases r with
  | nil => exact rfl
  | cons k bo i t it ks r =>
    obtain ⟨b, off, m, A1, n1, c1, A2, n2, c2, h1, h2, _⟩ := h
    omega
theorem At_cons {w : World} {B : Nat} {d : Vals} {A : Option Addr} {n : Nat} (h : d.At w B A n) (hn : 0 < n) : ∃ k bo i t it ks r, d = .cons k bo i t it ks r := by
  cases d with
  | nil => unfold Vals.At at h; omega
  | cons k bo i t it ks r => exact ⟨k, bo, i, t, it, ks, r, rfl⟩
end Go.Proofs.Ytfgekmfkaepgjaa
