/- DERIVED. Tests of rules as a datum: how they lie in memory, and that an argument which can be read is one. No condition. -/
import Derived.Deep.Slices
import Derived.Deep.Fields
import Derived.Below
import Derived.ProofKit
namespace Go.Proofs.YtlifjhglpflplaaDoor
open Go.ChangeShapes Go.WideShapes Go.Deep Go.RowKit

/-- Tests: the first one (operation, modulus, low, high, kids) and those behind it. -/
inductive Tst where
  | nil
  | cons (k md lo hi : Int) (kids rest : Tst)

namespace Tst
def len : Tst → Nat
  | .nil => 0
  | .cons _ _ _ _ _ r => r.len + 1
def nodes : Tst → Nat
  | .nil => 0
  | .cons _ _ _ _ c r => c.nodes + r.nodes + 1
def drop : Nat → Tst → Tst
  | 0, d => d
  | _ + 1, .nil => .nil
  | i + 1, .cons _ _ _ _ _ r => r.drop i
theorem len_le : ∀ d : Tst, d.len ≤ d.nodes
  | .nil => Nat.le_refl _
  | .cons _ _ _ _ c r => by have := len_le r; simp only [len, nodes]; omega

/-- It lies in memory, below block B, as a slice with address A and length n. -/
def At (w : World) (B : Nat) : Tst → Option Addr → Nat → Prop
  | .nil, _, n => n = 0
  | .cons k md lo hi kids rest, A, n => ∃ (b off m : Nat) (A' : Option Addr) (n' c' : Nat), A = some ⟨b, off, none⟩ ∧ n = m + 1 ∧ b < B ∧
      w.cell? ⟨b, off, none⟩ = some (.int .i64 k) ∧ w.cell? ⟨b, off + 1, none⟩ = some (.int .i64 md) ∧ w.cell? ⟨b, off + 2, none⟩ = some (.int .i64 lo) ∧ w.cell? ⟨b, off + 3, none⟩ = some (.int .i64 hi) ∧
      w.cell? ⟨b, off + 4, none⟩ = some (.slice A' n' c') ∧ n' ≤ c' ∧ c' ≤ maxLen ∧ (Lit.int .i64 k).wf = true ∧ (Lit.int .i64 md).wf = true ∧ (Lit.int .i64 lo).wf = true ∧ (Lit.int .i64 hi).wf = true ∧
      At w B kids A' n' ∧ At w B rest (some ⟨b, off + 5, none⟩) m

theorem At.len_eq {w : World} {B : Nat} : ∀ {d : Tst} {A : Option Addr} {n : Nat}, At w B d A n → n = d.len
  | .nil, _, _, h => h
  | .cons .., _, _, ⟨_, _, _, _, _, _, _, hn, _, _, _, _, _, _, _, _, _, _, _, _, _, hr⟩ => by
    rw [hn, At.len_eq hr]; rfl

theorem At.keep {w w' : World} {B B' : Nat} (hc : ∀ p : Addr, p.block < B → w'.cell? p = w.cell? p) (hB : B ≤ B') : ∀ {d : Tst} {A : Option Addr} {n : Nat}, At w B d A n → At w' B' d A n
  | .nil, _, _, h => h
  | .cons .., _, _, ⟨b, off, m, A', n', c', h1, h2, hb, c0, c1, c2, c3, c4, h3, h4, h5, h6, h7, h8, hk, hr⟩ =>
    ⟨b, off, m, A', n', c', h1, h2, Nat.lt_of_lt_of_le hb hB, (hc _ hb).trans c0, (hc _ hb).trans c1, (hc _ hb).trans c2, (hc _ hb).trans c3, (hc _ hb).trans c4, h3, h4, h5, h6, h7, h8,
      At.keep hc hB hk, At.keep hc hB hr⟩
theorem At.below {w w' : World} {B : Nat} (hb : Below B w w') {d : Tst} {A : Option Addr} {n : Nat} (h : At w B d A n) : At w' B d A n := At.keep (fun _ hp => hb.cell hp) (Nat.le_refl _) h
theorem At.more {w : World} {B B' : Nat} (hB : B ≤ B') {d : Tst} {A : Option Addr} {n : Nat} (h : At w B d A n) : At w B' d A n := At.keep (fun _ _ => rfl) hB h

/-- Element i: what it is, where it lies. -/
theorem At.get {w : World} {B : Nat} : ∀ {d : Tst} {b off n : Nat} (i : Nat), At w B d (some ⟨b, off, none⟩) n → i < n →
    ∃ k md lo hi kids rest, d.drop i = .cons k md lo hi kids rest ∧ d.drop (i + 1) = rest ∧ At w B (.cons k md lo hi kids rest) (some ⟨b, off + i * 5, none⟩) (n - i)
  | .nil, _, _, _, _, h, hi => by unfold At at h; omega
  | .cons k md lo hi kids rest, b, off, n, 0, h, _ => ⟨k, md, lo, hi, kids, rest, rfl, by cases rest <;> rfl, by simpa using h⟩
  | .cons k md lo hi kids rest, b, off, n, i + 1, h, hi' => by
    obtain ⟨b', off', m, A', n', c', h1, h2, _, _, _, _, _, _, _, _, _, _, _, _, _, hr⟩ := h
    cases h1
    obtain ⟨k1, md1, lo1, hi1, kids1, rest1, e1, e2, ha⟩ := At.get i hr (by omega)
    refine ⟨k1, md1, lo1, hi1, kids1, rest1, e1, e2, ?_⟩
    rw [show n - (i + 1) = m - i by omega, show off + (i + 1) * 5 = off + 5 + i * 5 by omega]
    exact ha
theorem At.base {w : World} {B : Nat} {d : Tst} {A : Option Addr} {n : Nat} (h : At w B d A n) (hn : 0 < n) : ∃ b off, A = some ⟨b, off, none⟩ ∧ b < B := by
  cases d with
  | nil => unfold At at h; omega
  | cons k md lo hi kids rest =>
    obtain ⟨b, off, m, A', n', c', h1, _, hb, _⟩ := h
    exact ⟨b, off, h1, hb⟩
end Tst

section
variable {H : Type} {enc : TypeId × Value → H} {P : Program} {w : World} {base : Nat} {spare : Nat → Bool} {held : Bool}

theorem open_tst {tI tL tN : TypeId} {f0 f1 f2 f3 f4 : Field} (hI : P.underlying tI = some (.int .i64)) (hL : P.underlying tL = some (.slice tN))
    (hN : P.underlying tN = some (.struct #[f0, f1, f2, f3, f4])) (h0 : f0.type = tI) (h1 : f1.type = tI) (h2 : f2.type = tI) (h3 : f3.type = tI) (h4 : f4.type = tL)
    (hone : oneCellFields P #[f0, f1, f2, f3, f4] = true) (hC : P.cellsOf tN = 5)
    (bulk : DataW H → Nat) (bulkAll : List (DataW H) → Nat) (b2 : ∀ e s, bulk (.slice e s) = bulkAll e + bulkAll s + 1) (b3 : ∀ p, bulk (.agg p) = bulkAll p + 1)
    (b4 : ∀ y r, bulkAll (y :: r) = bulk y + bulkAll r) :
    ∀ (fuel : Nat) (cs : List Value) (x : DataW H × List MemPlace), DataW.trod enc P w base spare held fuel tL cs = some x → (∀ p ∈ x.2, p.block < w.heap.size) →
      ∃ (d : Tst) (A : Option Addr) (n c : Nat), cs = [.slice A n c] ∧ n ≤ c ∧ c ≤ maxLen ∧ d.At w w.heap.size A n ∧ d.nodes ≤ bulk x.1 := by
  intro fuel
  induction fuel using Nat.strongRecOn with
  | _ fuel ih =>
    intro cs x h hlt
    rcases DataW.trod_slice hL h with ⟨rfl, _⟩ | ⟨a, len, cap, elems, rest, n, rfl, rfl, rfl, hb, hl, hm, hlen, hel, _, _⟩
    · exact ⟨.nil, none, 0, 0, rfl, Nat.le_refl _, Nat.zero_le _, rfl, Nat.zero_le _⟩
    · refine (fun key : ∃ d : Tst, d.At w w.heap.size (some a) len ∧ d.nodes ≤ bulkAll (elems.map (·.1)) => ?_) ?_
      · obtain ⟨d, hd, hle⟩ := key
        refine ⟨d, some a, len, cap, rfl, hl, hm, hd, ?_⟩
        simp only [b2]
        omega
      · -- element by element, from the end
        have one : ∀ i (hi : i < len), ∃ (k md lo hi : Int) (A' : Option Addr) (n' c' : Nat) (kids : Tst), (Lit.int .i64 k).wf = true ∧ (Lit.int .i64 md).wf = true ∧ (Lit.int .i64 lo).wf = true ∧ (Lit.int .i64 hi).wf = true ∧ n' ≤ c' ∧ c' ≤ maxLen ∧
            kids.At w w.heap.size A' n' ∧ kids.nodes + 1 ≤ bulk (elems[i]'(by omega)).1 ∧ ∀ j v, [Value.int .i64 k, .int .i64 md, .int .i64 lo, .int .i64 hi, .slice A' n' c'][j]? = some v → w.cell? (a.add (i * 5 + j)) = some v := by
          intro i hi
          have hh := hel i hi
          rw [hC, List.getElem?_eq_getElem (by omega)] at hh
          obtain ⟨cs', hcs, ht⟩ := Option.bind_eq_some_iff.1 hh
          obtain ⟨_, hcl, hat⟩ := World.cells?_some hcs
          obtain ⟨ys, n1, rfl, hy, _, hyl, hf⟩ := DataW.trod_struct hN ht
          match cs', hcl, hat with
          | [v0, v1, v2, v3, v4], _, hat =>
            obtain ⟨o0, k0⟩ := hone_of hone 0 f0 rfl
            obtain ⟨o1, k1⟩ := hone_of hone 1 f1 rfl
            obtain ⟨o2, k2⟩ := hone_of hone 2 f2 rfl
            obtain ⟨o3, k3⟩ := hone_of hone 3 f3 rfl
            obtain ⟨o4, k4⟩ := hone_of hone 4 f4 rfl
            have g0 := hf 0 f0 rfl
            have g1 := hf 1 f1 rfl
            have g2 := hf 2 f2 rfl
            have g3 := hf 3 f3 rfl
            have g4 := hf 4 f4 rfl
            rw [o0, k0, h0] at g0
            rw [o1, k1, h1] at g1
            rw [o2, k2, h2] at g2
            rw [o3, k3, h3] at g3
            rw [o4, k4, h4] at g4
            rw [List.getElem?_eq_getElem (by simp at hyl; omega)] at g0 g1 g2 g3 g4
            obtain ⟨k, e0, z0, w0⟩ := DataW.trod_int hI g0
            obtain ⟨md, e1, z1, w1⟩ := DataW.trod_int hI g1
            obtain ⟨lo, e2, z2, w2⟩ := DataW.trod_int hI g2
            obtain ⟨hi', e3, z3, w3⟩ := DataW.trod_int hI g3
            obtain ⟨kids, A', n', c', e4, w5, w6, hk, hle⟩ := ih n1 (by omega) _ _ g4 (fun p hp => hlt p (by
              refine List.mem_append_right _ (List.mem_flatMap.2 ⟨elems[i]'(by omega), List.mem_append_left _ (List.getElem_mem _), ?_⟩)
              rw [hy]
              exact List.mem_flatMap.2 ⟨_, List.getElem_mem _, hp⟩))
            simp at e0 e1 e2 e3 e4
            subst e0 e1 e2 e3 e4
            refine ⟨k, md, lo, hi', A', n', c', kids, w0, w1, w2, w3, w5, w6, hk, ?_, fun j v hj => ?_⟩
            · rw [hy]
              match ys, hyl, hle with
              | [y0, y1, y2, y3, y4], _, hle =>
                simp only [List.getElem_cons_zero, List.getElem_cons_succ] at hle
                simp only [List.map_cons, List.map_nil, b3, b4]
                omega
            have hj6 : j < 5 := by
              have := (List.getElem?_eq_some_iff.1 hj).1
              simpa using this
            rw [← Go.Deep.add_add, hat j hj6]
            exact hj
        by_cases hz : len = 0
        · exact ⟨.nil, hz, Nat.zero_le _⟩
        · have hblk : a.block < w.heap.size := hlt (.cell a.block a.off) (List.mem_append_left _ (MemPlace.mem_row.2 ⟨0, by rw [hC, hlen]; omega, by simp⟩))
          obtain ⟨b, off, spot⟩ := a
          have hspot : spot = none := by
            obtain ⟨k, md, lo, hi', A', n', c', kids, _, _, _, _, _, _, _, _, hc⟩ := one 0 (by omega)
            simpa [Addr.add] using World.cell?_spot (hc 0 _ rfl)
          subst hspot
          have build : ∀ m i, i + m = len → ∃ d : Tst, d.At w w.heap.size (some ⟨b, off + i * 5, none⟩) m ∧ d.nodes ≤ bulkAll ((elems.drop i).map (·.1)) := by
            intro m
            induction m with
            | zero => exact fun _ _ => ⟨.nil, rfl, Nat.zero_le _⟩
            | succ m ihm =>
              intro i him
              obtain ⟨rest', hr, hrle⟩ := ihm (i + 1) (by omega)
              obtain ⟨k, md, lo, hi', A', n', c', kids, w0, w1, w2, w3, w5, w6, hk, hkle, hc⟩ := one i (by omega)
              have cell : ∀ j v, [Value.int .i64 k, .int .i64 md, .int .i64 lo, .int .i64 hi', .slice A' n' c'][j]? = some v → w.cell? ⟨b, off + i * 5 + j, none⟩ = some v := by
                intro j v hj
                have := hc j v hj
                by_cases hij : i * 5 + j = 0
                · have : i = 0 := by omega
                  have : j = 0 := by omega
                  subst i; subst j
                  simpa [Addr.add] using hc 0 v hj
                · unfold Addr.add at this
                  rw [if_neg hij, ← Nat.add_assoc] at this
                  exact this
              refine ⟨.cons k md lo hi' kids rest', ⟨b, off + i * 5, m, A', n', c', rfl, rfl, hblk, cell 0 _ rfl, cell 1 _ rfl, cell 2 _ rfl, cell 3 _ rfl, cell 4 _ rfl, w5, w6, w0, w1, w2, w3, hk, ?_⟩, ?_⟩
              · rw [show off + i * 5 + 5 = off + (i + 1) * 5 by omega]
                exact hr
              · rw [List.drop_eq_getElem_cons (by omega)]
                simp only [List.map_cons, b4, Tst.nodes]
                omega
          obtain ⟨d, hd, hle⟩ := build len 0 (by omega)
          exact ⟨d, by simpa using hd, by simpa using hle⟩
end
namespace Tst
theorem drop_len' : ∀ d : Tst, d.drop d.len = .nil
  | .nil => rfl
  | .cons _ _ _ _ _ r => drop_len' r
theorem nodes_drop' : ∀ (i : Nat) (d : Tst), (d.drop i).nodes ≤ d.nodes
  | 0, d => by cases d <;> exact Nat.le_refl _
  | i + 1, .nil => Nat.le_refl _
  | i + 1, .cons _ _ _ _ c r => by
    have := nodes_drop' i r
    show (r.drop i).nodes ≤ c.nodes + r.nodes + 1
    omega
theorem drop_zero' (d : Tst) : d.drop 0 = d := by cases d <;> rfl
end Tst
/-- Element i of tests in memory, at its offset. -/
structure El5 (w : World) (B b o : Nat) (k md lo hi : Int) (A : Option Addr) (n c : Nat) (kids : Tst) : Prop where
  lt : b < B
  c0 : w.cell? ⟨b, o, none⟩ = some (.int .i64 k)
  c1 : w.cell? ⟨b, o + 1, none⟩ = some (.int .i64 md)
  c2 : w.cell? ⟨b, o + 2, none⟩ = some (.int .i64 lo)
  c3 : w.cell? ⟨b, o + 3, none⟩ = some (.int .i64 hi)
  c4 : w.cell? ⟨b, o + 4, none⟩ = some (.slice A n c)
  nc : n ≤ c
  cm : c ≤ maxLen
  w0 : (Lit.int .i64 k).wf = true
  w1 : (Lit.int .i64 md).wf = true
  w2 : (Lit.int .i64 lo).wf = true
  w3 : (Lit.int .i64 hi).wf = true
  at_ : kids.At w B A n
theorem El5.below {w w' : World} {B b o : Nat} {k md lo hi : Int} {A : Option Addr} {n c : Nat} {kids : Tst} (h : El5 w B b o k md lo hi A n c kids) (hb : Below B w w') : El5 w' B b o k md lo hi A n c kids :=
  ⟨h.lt, (hb.cell h.lt).trans h.c0, (hb.cell h.lt).trans h.c1, (hb.cell h.lt).trans h.c2, (hb.cell h.lt).trans h.c3, (hb.cell h.lt).trans h.c4, h.nc, h.cm, h.w0, h.w1, h.w2, h.w3, h.at_.below hb⟩
theorem Tst.At.el {w : World} {B : Nat} {d : Tst} {A : Option Addr} {n : Nat} (i : Nat) (h : d.At w B A n) (hi : i < n) :
    ∃ b off k md lo hi' A' n' c' kids rest, A = some ⟨b, off, none⟩ ∧ d.drop i = .cons k md lo hi' kids rest ∧ d.drop (i + 1) = rest ∧ El5 w B b (off + i * 5) k md lo hi' A' n' c' kids := by
  obtain ⟨b, off, rfl, _⟩ := h.base (by omega)
  obtain ⟨k, md, lo, hi', kids, rest, e1, e2, h2⟩ := Tst.At.get i h hi
  obtain ⟨b', off', m, A', n', c', h1, _, hb, c0, c1, c2, c3, c4, h3, h4, h5, h6, h7, h8, hk, _⟩ := h2
  cases h1
  exact ⟨b, off, k, md, lo, hi', A', n', c', kids, rest, rfl, e1, e2, hb, c0, c1, c2, c3, c4, h3, h4, h5, h6, h7, h8, hk⟩
end Go.Proofs.YtlifjhglpflplaaDoor
