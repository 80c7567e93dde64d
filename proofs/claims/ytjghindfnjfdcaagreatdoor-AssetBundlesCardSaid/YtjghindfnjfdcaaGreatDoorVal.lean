/- DERIVED. Values of settings as a datum: how they lie in memory, and that an argument which can be read is one. No condition. -/
import Derived.Deep.Slices
import Derived.Deep.Fields
import Derived.Deep.Strs
import Derived.WideShapes
import Derived.Below
import Derived.ProofKit
namespace Go.Proofs.YtjghindfnjfdcaaGreatDoor
open Go.ChangeShapes Go.WideShapes Go.Deep Go.RowKit

/-- A row of values: the first one (kind, bool, int, text, items, keys) and those behind it. -/
inductive Vals where
  | nil
  | cons (k : Int) (b : Bool) (i : Int) (t : ByteArray) (items : Vals) (keys : List ByteArray) (rest : Vals)

/-- The letters of strings, and one for each. -/
def kz : List ByteArray → Nat
  | [] => 0
  | s :: r => s.size + 1 + kz r
theorem kz_len : ∀ l : List ByteArray, l.length ≤ kz l
  | [] => Nat.le_refl _
  | s :: r => by have := kz_len r; simp only [List.length_cons, kz]; omega
theorem kz_mem : ∀ (l : List ByteArray) (s : ByteArray), s ∈ l → s.size + 1 ≤ kz l
  | [], _, h => by cases h
  | a :: r, s, h => by
    rcases List.mem_cons.1 h with rfl | h
    · simp only [kz]; omega
    · have := kz_mem r s h; simp only [kz]; omega

/-- The strings lie in memory, below block B, as a slice with address A and length n. -/
def KeysAt (w : World) (B : Nat) (l : List ByteArray) (A : Option Addr) (n : Nat) : Prop :=
  n = l.length ∧ (∀ s, s ∈ l → s.size ≤ maxLen) ∧ (0 < n → ∃ b o, A = some ⟨b, o, none⟩ ∧ b < B ∧ ∀ j s, l[j]? = some s → w.cell? ⟨b, o + j, none⟩ = some (.string s))
theorem KeysAt.keep {w w' : World} {B B' : Nat} (hc : ∀ p : Addr, p.block < B → w'.cell? p = w.cell? p) (hB : B ≤ B') {l : List ByteArray} {A : Option Addr} {n : Nat} (h : KeysAt w B l A n) : KeysAt w' B' l A n := by
  refine ⟨h.1, h.2.1, fun hn => ?_⟩
  obtain ⟨b, o, e, hb, hh⟩ := h.2.2 hn
  exact ⟨b, o, e, Nat.lt_of_lt_of_le hb hB, fun j s hj => (hc ⟨b, o + j, none⟩ hb).trans (hh j s hj)⟩

namespace Vals
def len : Vals → Nat
  | .nil => 0
  | .cons _ _ _ _ _ _ r => r.len + 1
/-- The number of values. -/
def nodes : Vals → Nat
  | .nil => 0
  | .cons _ _ _ _ c _ r => c.nodes + r.nodes + 1
/-- All letters. -/
def letters : Vals → Nat
  | .nil => 0
  | .cons _ _ _ t c ks r => t.size + kz ks + c.letters + r.letters
def drop : Nat → Vals → Vals
  | 0, d => d
  | _ + 1, .nil => .nil
  | i + 1, .cons _ _ _ _ _ _ r => r.drop i
theorem len_le : ∀ d : Vals, d.len ≤ d.nodes
  | .nil => Nat.le_refl _
  | .cons _ _ _ _ c _ r => by have := len_le r; simp only [len, nodes]; omega
theorem drop_len : ∀ d : Vals, d.drop d.len = .nil
  | .nil => rfl
  | .cons _ _ _ _ _ _ r => drop_len r
theorem nodes_drop : ∀ (i : Nat) (d : Vals), (d.drop i).nodes ≤ d.nodes
  | 0, d => by cases d <;> exact Nat.le_refl _
  | i + 1, .nil => Nat.le_refl _
  | i + 1, .cons _ _ _ _ c _ r => by
    have := nodes_drop i r
    show (r.drop i).nodes ≤ c.nodes + r.nodes + 1
    omega
theorem letters_drop : ∀ (i : Nat) (d : Vals), (d.drop i).letters ≤ d.letters
  | 0, d => by cases d <;> exact Nat.le_refl _
  | i + 1, .nil => Nat.le_refl _
  | i + 1, .cons _ _ _ t c ks r => by
    have := letters_drop i r
    show (r.drop i).letters ≤ t.size + kz ks + c.letters + r.letters
    omega
theorem drop_zero (d : Vals) : d.drop 0 = d := by cases d <;> rfl
theorem len_drop : ∀ (i : Nat) (d : Vals), (d.drop i).len = d.len - i
  | 0, d => by cases d <;> simp [drop]
  | i + 1, .nil => by simp [drop, len]
  | i + 1, .cons _ _ _ _ _ _ r => by
    have := len_drop i r
    show (r.drop i).len = r.len + 1 - (i + 1)
    omega

/-- They lie in memory, below block B, as a slice with address A and length n. -/
def At (w : World) (B : Nat) : Vals → Option Addr → Nat → Prop
  | .nil, _, n => n = 0
  | .cons k bo i t items keys rest, A, n => ∃ (b off m : Nat) (A1 : Option Addr) (n1 c1 : Nat) (A2 : Option Addr) (n2 c2 : Nat), A = some ⟨b, off, none⟩ ∧ n = m + 1 ∧ b < B ∧
      w.cell? ⟨b, off, none⟩ = some (.int .i64 k) ∧ w.cell? ⟨b, off + 1, none⟩ = some (.bool bo) ∧ w.cell? ⟨b, off + 2, none⟩ = some (.int .i64 i) ∧ w.cell? ⟨b, off + 3, none⟩ = some (.string t) ∧
      w.cell? ⟨b, off + 4, none⟩ = some (.slice A1 n1 c1) ∧ w.cell? ⟨b, off + 5, none⟩ = some (.slice A2 n2 c2) ∧ n1 ≤ c1 ∧ c1 ≤ maxLen ∧ n2 ≤ c2 ∧ c2 ≤ maxLen ∧ (Lit.int .i64 k).wf = true ∧ (Lit.int .i64 i).wf = true ∧
      t.size ≤ maxLen ∧ At w B items A1 n1 ∧ KeysAt w B keys A2 n2 ∧ At w B rest (some ⟨b, off + 6, none⟩) m

theorem At.len_eq {w : World} {B : Nat} : ∀ {d : Vals} {A : Option Addr} {n : Nat}, At w B d A n → n = d.len
  | .nil, _, _, h => h
  | .cons .., _, _, ⟨_, _, _, _, _, _, _, _, _, _, hn, _, _, _, _, _, _, _, _, _, _, _, _, _, _, _, _, hr⟩ => by
    rw [hn, At.len_eq hr]; rfl
theorem At.keep {w w' : World} {B B' : Nat} (hc : ∀ p : Addr, p.block < B → w'.cell? p = w.cell? p) (hB : B ≤ B') : ∀ {d : Vals} {A : Option Addr} {n : Nat}, At w B d A n → At w' B' d A n
  | .nil, _, _, h => h
  | .cons .., _, _, ⟨b, off, m, A1, n1, c1, A2, n2, c2, h1, h2, hb, x0, x1, x2, x3, x4, x5, h3, h4, h5, h6, h7, h8, h9, hk, hs, hr⟩ =>
    ⟨b, off, m, A1, n1, c1, A2, n2, c2, h1, h2, Nat.lt_of_lt_of_le hb hB, (hc _ hb).trans x0, (hc _ hb).trans x1, (hc _ hb).trans x2, (hc _ hb).trans x3, (hc _ hb).trans x4, (hc _ hb).trans x5, h3, h4, h5, h6, h7, h8, h9,
      At.keep hc hB hk, hs.keep hc hB, At.keep hc hB hr⟩
theorem At.below {w w' : World} {B : Nat} (hb : Below B w w') {d : Vals} {A : Option Addr} {n : Nat} (h : At w B d A n) : At w' B d A n := At.keep (fun _ hp => hb.cell hp) (Nat.le_refl _) h
theorem At.more {w : World} {B B' : Nat} (hB : B ≤ B') {d : Vals} {A : Option Addr} {n : Nat} (h : At w B d A n) : At w B' d A n := At.keep (fun _ _ => rfl) hB h
end Vals
theorem KeysAt.below {w w' : World} {B : Nat} (hb : Below B w w') {l : List ByteArray} {A : Option Addr} {n : Nat} (h : KeysAt w B l A n) : KeysAt w' B l A n := KeysAt.keep (fun _ hp => hb.cell hp) (Nat.le_refl _) h
theorem KeysAt.more {w : World} {B B' : Nat} (hB : B ≤ B') {l : List ByteArray} {A : Option Addr} {n : Nat} (h : KeysAt w B l A n) : KeysAt w B' l A n := KeysAt.keep (fun _ _ => rfl) hB h

/-- What a value's slices stand for. -/
structure VOk (w : World) (B : Nat) (k i : Int) (t : ByteArray) (A1 : Option Addr) (n1 c1 : Nat) (A2 : Option Addr) (n2 c2 : Nat) (items : Vals) (keys : List ByteArray) : Prop where
  nc1 : n1 ≤ c1
  cm1 : c1 ≤ maxLen
  nc2 : n2 ≤ c2
  cm2 : c2 ≤ maxLen
  kwf : (Lit.int .i64 k).wf = true
  iwf : (Lit.int .i64 i).wf = true
  ts : t.size ≤ maxLen
  at_ : items.At w B A1 n1
  ks : KeysAt w B keys A2 n2
theorem VOk.keep {w w' : World} {B B' : Nat} (hc : ∀ p : Addr, p.block < B → w'.cell? p = w.cell? p) (hB : B ≤ B') {k i : Int} {t : ByteArray} {A1 : Option Addr} {n1 c1 : Nat} {A2 : Option Addr} {n2 c2 : Nat} {items : Vals} {keys : List ByteArray}
    (h : VOk w B k i t A1 n1 c1 A2 n2 c2 items keys) : VOk w' B' k i t A1 n1 c1 A2 n2 c2 items keys :=
  ⟨h.nc1, h.cm1, h.nc2, h.cm2, h.kwf, h.iwf, h.ts, h.at_.keep hc hB, h.ks.keep hc hB⟩
theorem VOk.below {w w' : World} {B : Nat} (hb : Below B w w') {k i : Int} {t : ByteArray} {A1 : Option Addr} {n1 c1 : Nat} {A2 : Option Addr} {n2 c2 : Nat} {items : Vals} {keys : List ByteArray}
    (h : VOk w B k i t A1 n1 c1 A2 n2 c2 items keys) : VOk w' B k i t A1 n1 c1 A2 n2 c2 items keys := h.keep (fun _ hp => hb.cell hp) (Nat.le_refl _)
theorem VOk.more {w : World} {B B' : Nat} (hB : B ≤ B') {k i : Int} {t : ByteArray} {A1 : Option Addr} {n1 c1 : Nat} {A2 : Option Addr} {n2 c2 : Nat} {items : Vals} {keys : List ByteArray}
    (h : VOk w B k i t A1 n1 c1 A2 n2 c2 items keys) : VOk w B' k i t A1 n1 c1 A2 n2 c2 items keys := h.keep (fun _ _ => rfl) hB
/-- Value i of a row in memory, at its offset. -/
structure VEl (w : World) (B b o : Nat) (k : Int) (bo : Bool) (i : Int) (t : ByteArray) (A1 : Option Addr) (n1 c1 : Nat) (A2 : Option Addr) (n2 c2 : Nat) (items : Vals) (keys : List ByteArray) : Prop where
  lt : b < B
  x0 : w.cell? ⟨b, o, none⟩ = some (.int .i64 k)
  x1 : w.cell? ⟨b, o + 1, none⟩ = some (.bool bo)
  x2 : w.cell? ⟨b, o + 2, none⟩ = some (.int .i64 i)
  x3 : w.cell? ⟨b, o + 3, none⟩ = some (.string t)
  x4 : w.cell? ⟨b, o + 4, none⟩ = some (.slice A1 n1 c1)
  x5 : w.cell? ⟨b, o + 5, none⟩ = some (.slice A2 n2 c2)
  ok : VOk w B k i t A1 n1 c1 A2 n2 c2 items keys
theorem VEl.below {w w' : World} {B b o : Nat} {k : Int} {bo : Bool} {i : Int} {t : ByteArray} {A1 : Option Addr} {n1 c1 : Nat} {A2 : Option Addr} {n2 c2 : Nat} {items : Vals} {keys : List ByteArray}
    (h : VEl w B b o k bo i t A1 n1 c1 A2 n2 c2 items keys) (hb : Below B w w') : VEl w' B b o k bo i t A1 n1 c1 A2 n2 c2 items keys :=
  ⟨h.lt, (hb.cell h.lt).trans h.x0, (hb.cell h.lt).trans h.x1, (hb.cell h.lt).trans h.x2, (hb.cell h.lt).trans h.x3, (hb.cell h.lt).trans h.x4, (hb.cell h.lt).trans h.x5, h.ok.below hb⟩
namespace Vals
/-- Value j: what it is, where it lies. -/
theorem At.get {w : World} {B : Nat} : ∀ {d : Vals} {b off n : Nat} (j : Nat), At w B d (some ⟨b, off, none⟩) n → j < n →
    ∃ k bo i t items keys rest, d.drop j = .cons k bo i t items keys rest ∧ d.drop (j + 1) = rest ∧ At w B (.cons k bo i t items keys rest) (some ⟨b, off + j * 6, none⟩) (n - j)
  | .nil, _, _, _, _, h, hi => by unfold At at h; omega
  | .cons k bo i t items keys rest, b, off, n, 0, h, _ => ⟨k, bo, i, t, items, keys, rest, rfl, by cases rest <;> rfl, by simpa using h⟩
  | .cons k bo i t items keys rest, b, off, n, j + 1, h, hi => by
    obtain ⟨b', off', m, A1, n1, c1, A2, n2, c2, h1, h2, _, _, _, _, _, _, _, _, _, _, _, _, _, _, _, _, hr⟩ := h
    cases h1
    obtain ⟨k1, bo1, i1, t1, it1, ks1, rest1, e1, e2, ha⟩ := At.get j hr (by omega)
    refine ⟨k1, bo1, i1, t1, it1, ks1, rest1, e1, e2, ?_⟩
    rw [show n - (j + 1) = m - j by omega, show off + (j + 1) * 6 = off + 6 + j * 6 by omega]
    exact ha
theorem At.base {w : World} {B : Nat} {d : Vals} {A : Option Addr} {n : Nat} (h : At w B d A n) (hn : 0 < n) : ∃ b off, A = some ⟨b, off, none⟩ ∧ b < B := by
  cases d with
  | nil => unfold At at h; omega
  | cons k bo i t items keys rest =>
    obtain ⟨b, off, m, A1, n1, c1, A2, n2, c2, h1, _, hb, _⟩ := h
    exact ⟨b, off, h1, hb⟩
theorem At.el {w : World} {B : Nat} {d : Vals} {A : Option Addr} {n : Nat} (j : Nat) (h : d.At w B A n) (hi : j < n) :
    ∃ b off k bo i t A1 n1 c1 A2 n2 c2 items keys rest, A = some ⟨b, off, none⟩ ∧ d.drop j = .cons k bo i t items keys rest ∧ d.drop (j + 1) = rest ∧ VEl w B b (off + j * 6) k bo i t A1 n1 c1 A2 n2 c2 items keys := by
  obtain ⟨b, off, rfl, _⟩ := h.base (by omega)
  obtain ⟨k, bo, i, t, items, keys, rest, e1, e2, hh⟩ := At.get j h hi
  obtain ⟨b', off', m, A1, n1, c1, A2, n2, c2, h1, _, hb, x0, x1, x2, x3, x4, x5, h3, h4, h5, h6, h7, h8, h9, hk, hs, _⟩ := hh
  cases h1
  exact ⟨b, off, k, bo, i, t, A1, n1, c1, A2, n2, c2, items, keys, rest, rfl, e1, e2, hb, x0, x1, x2, x3, x4, x5, h3, h4, h5, h6, h7, h8, h9, hk, hs⟩
end Vals

section
variable {H : Type} {enc : TypeId × Value → H} {P : Program} {w : World} {base : Nat} {spare : Nat → Bool} {held : Bool}

/-- The types of a value. -/
structure ValTypes (P : Program) (tI tB tS tL tK tN : TypeId) (f0 f1 f2 f3 f4 f5 : Field) : Prop where
  hI : P.underlying tI = some (.int .i64)
  hB : P.underlying tB = some .bool
  hS : P.underlying tS = some .string
  hL : P.underlying tL = some (.slice tN)
  hK : P.underlying tK = some (.slice tS)
  hN : P.underlying tN = some (.struct #[f0, f1, f2, f3, f4, f5])
  h0 : f0.type = tI
  h1 : f1.type = tB
  h2 : f2.type = tI
  h3 : f3.type = tS
  h4 : f4.type = tL
  h5 : f5.type = tK
  hone : oneCellFields P #[f0, f1, f2, f3, f4, f5] = true
  hC : P.cellsOf tN = 6
  hCS : P.cellsOf tS = 1
/-- How the bulk of data is counted. -/
structure Bulky {H : Type} (bulk : DataW H → Nat) (bulkAll : List (DataW H) → Nat) : Prop where
  b1 : ∀ l, bulk (.lit (.string l)) = l.length + 1
  b2 : ∀ e s, bulk (.slice e s) = bulkAll e + bulkAll s + 1
  b3 : ∀ p, bulk (.agg p) = bulkAll p + 1
  b4 : ∀ y r, bulkAll (y :: r) = bulk y + bulkAll r

theorem kz_bulk {bulk : DataW H → Nat} {bulkAll : List (DataW H) → Nat} (hb : Bulky bulk bulkAll) (Sx : Nat → ByteArray) : ∀ l : List Nat, kz (l.map Sx) ≤ bulkAll (l.map fun i => .lit (.string (Sx i).data.toList))
  | [] => Nat.zero_le _
  | i :: r => by
    have := kz_bulk hb Sx r
    have h1 : (Sx i).data.size = (Sx i).size := rfl
    simp only [List.map_cons, kz, hb.b4, hb.b1, Array.length_toList]
    omega

theorem open_keys {tK tS : TypeId} {fuel : Nat} {cs : List Value} {x : DataW H × List MemPlace} (hK : P.underlying tK = some (.slice tS)) (hS : P.underlying tS = some .string) (hCS : P.cellsOf tS = 1)
    {bulk : DataW H → Nat} {bulkAll : List (DataW H) → Nat} (hb : Bulky bulk bulkAll)
    (h : DataW.trod enc P w base spare held fuel tK cs = some x) (hlt : ∀ p ∈ x.2, p.block < w.heap.size) :
    ∃ (keys : List ByteArray) (A : Option Addr) (n c : Nat), cs = [.slice A n c] ∧ n ≤ c ∧ c ≤ maxLen ∧ KeysAt w w.heap.size keys A n ∧ kz keys ≤ bulk x.1 := by
  rcases open_strs hK hS hCS h with ⟨rfl, _⟩ | ⟨a, len, cap, m, Sx, rfl, hba, hl, hm, hmm, rfl, hx⟩
  · exact ⟨[], none, 0, 0, rfl, Nat.le_refl _, Nat.zero_le _, ⟨rfl, by simp, fun h => by omega⟩, Nat.zero_le _⟩
  · have hlm : len ≤ m := by rw [hmm]; split <;> omega
    refine ⟨(List.range len).map Sx, some a, len, cap, rfl, hl, hm, ⟨by simp, fun s hs => ?_, fun h0 => ?_⟩, ?_⟩
    · obtain ⟨i, hi, rfl⟩ := List.mem_map.1 hs
      exact (hx i (by have := List.mem_range.1 hi; omega)).2
    · have hblk : a.block < w.heap.size := hlt (.cell a.block a.off) (MemPlace.mem_row.2 ⟨0, by omega, by simp⟩)
      obtain ⟨b, off, spot⟩ := a
      have hspot : spot = none := by
        have h1 := (hx 0 (by omega)).1
        simpa [Addr.add] using World.cell?_spot h1
      subst hspot
      refine ⟨b, off, rfl, hblk, fun j s hj => ?_⟩
      obtain ⟨hj1, hj2⟩ := List.getElem?_eq_some_iff.1 hj
      have hjl : j < len := by simpa using hj1
      have hsx : Sx j = s := by simpa using hj2
      have h1 := (hx j (by omega)).1
      rw [hsx] at h1
      by_cases h0 : j = 0
      · subst h0; simpa [Addr.add] using h1
      · unfold Addr.add at h1
        rw [if_neg h0] at h1
        exact h1
    · have := kz_bulk (H := H) hb Sx (List.range len)
      simp only [hb.b2]
      omega

/-- The fields of a value that can be read, if its items can be. -/
theorem one_val {tI tB tS tL tK tN : TypeId} {f0 f1 f2 f3 f4 f5 : Field} (T : ValTypes P tI tB tS tL tK tN f0 f1 f2 f3 f4 f5) {bulk : DataW H → Nat} {bulkAll : List (DataW H) → Nat} (hb : Bulky bulk bulkAll)
    {fuel : Nat} {cs : List Value} {x : DataW H × List MemPlace} (h : DataW.trod enc P w base spare held fuel tN cs = some x) (hlt : ∀ p ∈ x.2, p.block < w.heap.size)
    (ih : ∀ m, m < fuel → ∀ (cs : List Value) (x : DataW H × List MemPlace), DataW.trod enc P w base spare held m tL cs = some x → (∀ p ∈ x.2, p.block < w.heap.size) →
      ∃ (d : Vals) (A : Option Addr) (n c : Nat), cs = [.slice A n c] ∧ n ≤ c ∧ c ≤ maxLen ∧ d.At w w.heap.size A n ∧ d.nodes + d.letters ≤ bulk x.1) (hcl : cs.length = 6) :
    ∃ (k : Int) (bo : Bool) (i : Int) (t : ByteArray) (A1 : Option Addr) (n1 c1 : Nat) (A2 : Option Addr) (n2 c2 : Nat) (items : Vals) (keys : List ByteArray),
      cs = [.int .i64 k, .bool bo, .int .i64 i, .string t, .slice A1 n1 c1, .slice A2 n2 c2] ∧ VOk w w.heap.size k i t A1 n1 c1 A2 n2 c2 items keys ∧ items.nodes + items.letters + t.size + kz keys + 1 ≤ bulk x.1 := by
  obtain ⟨ys, n1, hfu, hy, _, hyl, hf⟩ := DataW.trod_struct T.hN h
  match cs, hcl, hf with
  | [v0, v1, v2, v3, v4, v5], _, hf =>
    have hone := T.hone
    obtain ⟨o0, k0⟩ := hone_of hone 0 f0 rfl
    obtain ⟨o1, k1⟩ := hone_of hone 1 f1 rfl
    obtain ⟨o2, k2⟩ := hone_of hone 2 f2 rfl
    obtain ⟨o3, k3⟩ := hone_of hone 3 f3 rfl
    obtain ⟨o4, k4⟩ := hone_of hone 4 f4 rfl
    obtain ⟨o5, k5⟩ := hone_of hone 5 f5 rfl
    have g0 := hf 0 f0 rfl
    have g1 := hf 1 f1 rfl
    have g2 := hf 2 f2 rfl
    have g3 := hf 3 f3 rfl
    have g4 := hf 4 f4 rfl
    have g5 := hf 5 f5 rfl
    rw [o0, k0, T.h0] at g0
    rw [o1, k1, T.h1] at g1
    rw [o2, k2, T.h2] at g2
    rw [o3, k3, T.h3] at g3
    rw [o4, k4, T.h4] at g4
    rw [o5, k5, T.h5] at g5
    rw [List.getElem?_eq_getElem (by simp at hyl; omega)] at g0 g1 g2 g3 g4 g5
    obtain ⟨k, e0, z0, w0⟩ := DataW.trod_int T.hI g0
    obtain ⟨bo, e1, z1⟩ := DataW.trod_bool T.hB g1
    obtain ⟨i, e2, z2, w2⟩ := DataW.trod_int T.hI g2
    obtain ⟨t, e3, z3, w3⟩ := DataW.trod_string T.hS g3
    have hsub : ∀ (q : Nat) (hq : q < ys.length), ∀ p ∈ (ys[q]).2, p.block < w.heap.size := fun q hq p hp => hlt p (by
      rw [hy]
      exact List.mem_flatMap.2 ⟨_, List.getElem_mem _, hp⟩)
    obtain ⟨items, A1, m1, c1, e4, w4, w5, hk, hle⟩ := ih n1 (by omega) _ _ g4 (hsub 4 (by simp at hyl; omega))
    obtain ⟨keys, A2, m2, c2, e5, w6, w7, hks, hkle⟩ := open_keys T.hK T.hS T.hCS hb g5 (hsub 5 (by simp at hyl; omega))
    simp at e0 e1 e2 e3 e4 e5
    subst e0 e1 e2 e3 e4 e5
    refine ⟨k, bo, i, t, A1, m1, c1, A2, m2, c2, items, keys, rfl, ⟨w4, w5, w6, w7, w0, w2, w3, hk, hks⟩, ?_⟩
    rw [hy]
    match ys, hyl, z0, z1, z2, z3, hle, hkle with
    | [y0, y1, y2, y3, y4, y5], _, z0, z1, z2, z3, hle, hkle =>
      simp only [List.getElem_cons_zero, List.getElem_cons_succ] at z0 z1 z2 z3 hle hkle
      subst z0 z1 z2 z3
      simp only [List.map_cons, List.map_nil, hb.b3, hb.b4, hb.b1, Array.length_toList]
      have : t.data.size = t.size := rfl
      omega

theorem open_vals {tI tB tS tL tK tN : TypeId} {f0 f1 f2 f3 f4 f5 : Field} (T : ValTypes P tI tB tS tL tK tN f0 f1 f2 f3 f4 f5) {bulk : DataW H → Nat} {bulkAll : List (DataW H) → Nat} (hbk : Bulky bulk bulkAll) :
    ∀ (fuel : Nat) (cs : List Value) (x : DataW H × List MemPlace), DataW.trod enc P w base spare held fuel tL cs = some x → (∀ p ∈ x.2, p.block < w.heap.size) →
      ∃ (d : Vals) (A : Option Addr) (n c : Nat), cs = [.slice A n c] ∧ n ≤ c ∧ c ≤ maxLen ∧ d.At w w.heap.size A n ∧ d.nodes + d.letters ≤ bulk x.1 := by
  intro fuel
  induction fuel using Nat.strongRecOn with
  | _ fuel ih =>
    intro cs x h hlt
    have hC := T.hC
    rcases DataW.trod_slice T.hL h with ⟨rfl, _⟩ | ⟨a, len, cap, elems, rest, n, hfu, rfl, rfl, hb, hl, hm, hlen, hel, _, _⟩
    · exact ⟨.nil, none, 0, 0, rfl, Nat.le_refl _, Nat.zero_le _, rfl, Nat.zero_le _⟩
    · refine (fun key : ∃ d : Vals, d.At w w.heap.size (some a) len ∧ d.nodes + d.letters ≤ bulkAll (elems.map (·.1)) => ?_) ?_
      · obtain ⟨d, hd, hle⟩ := key
        refine ⟨d, some a, len, cap, rfl, hl, hm, hd, ?_⟩
        simp only [hbk.b2]
        omega
      · have one : ∀ q (hq : q < len), ∃ (k : Int) (bo : Bool) (i : Int) (t : ByteArray) (A1 : Option Addr) (n1 c1 : Nat) (A2 : Option Addr) (n2 c2 : Nat) (items : Vals) (keys : List ByteArray),
            VOk w w.heap.size k i t A1 n1 c1 A2 n2 c2 items keys ∧ items.nodes + items.letters + t.size + kz keys + 1 ≤ bulk (elems[q]'(by omega)).1 ∧
            ∀ j v, [Value.int .i64 k, .bool bo, .int .i64 i, .string t, .slice A1 n1 c1, .slice A2 n2 c2][j]? = some v → w.cell? (a.add (q * 6 + j)) = some v := by
          intro q hq
          have hh := hel q hq
          rw [hC, List.getElem?_eq_getElem (by omega)] at hh
          obtain ⟨cs', hcs, ht⟩ := Option.bind_eq_some_iff.1 hh
          obtain ⟨_, hcl, hat⟩ := World.cells?_some hcs
          obtain ⟨k, bo, i, t, A1, n1, c1, A2, n2, c2, items, keys, rfl, hok, hle⟩ := one_val T hbk ht (fun p hp => hlt p (by
              refine List.mem_append_right _ (List.mem_flatMap.2 ⟨elems[q]'(by omega), List.mem_append_left _ (List.getElem_mem _), hp⟩))) (fun m hm => ih m (by omega)) hcl
          refine ⟨k, bo, i, t, A1, n1, c1, A2, n2, c2, items, keys, hok, hle, fun j v hj => ?_⟩
          have hj6 : j < 6 := by
            have := (List.getElem?_eq_some_iff.1 hj).1
            simpa using this
          rw [← Go.Deep.add_add, hat j hj6]
          exact hj
        by_cases hz : len = 0
        · exact ⟨.nil, hz, Nat.zero_le _⟩
        · have hblk : a.block < w.heap.size := hlt (.cell a.block a.off) (List.mem_append_left _ (MemPlace.mem_row.2 ⟨0, by rw [hC, hlen]; omega, by simp⟩))
          obtain ⟨b, off, spot⟩ := a
          have hspot : spot = none := by
            obtain ⟨k, bo, i, t, A1, n1, c1, A2, n2, c2, items, keys, _, _, hc⟩ := one 0 (by omega)
            simpa [Addr.add] using World.cell?_spot (hc 0 _ rfl)
          subst hspot
          have build : ∀ m q, q + m = len → ∃ d : Vals, d.At w w.heap.size (some ⟨b, off + q * 6, none⟩) m ∧ d.nodes + d.letters ≤ bulkAll ((elems.drop q).map (·.1)) := by
            intro m
            induction m with
            | zero => exact fun _ _ => ⟨.nil, rfl, Nat.zero_le _⟩
            | succ m ihm =>
              intro q him
              obtain ⟨rest', hr, hrle⟩ := ihm (q + 1) (by omega)
              obtain ⟨k, bo, i, t, A1, n1, c1, A2, n2, c2, items, keys, hok, hkle, hc⟩ := one q (by omega)
              have cell : ∀ j v, [Value.int .i64 k, .bool bo, .int .i64 i, .string t, .slice A1 n1 c1, .slice A2 n2 c2][j]? = some v → w.cell? ⟨b, off + q * 6 + j, none⟩ = some v := by
                intro j v hj
                have := hc j v hj
                by_cases hij : q * 6 + j = 0
                · have : q = 0 := by omega
                  have : j = 0 := by omega
                  subst q; subst j
                  simpa [Addr.add] using hc 0 v hj
                · unfold Addr.add at this
                  rw [if_neg hij, ← Nat.add_assoc] at this
                  exact this
              refine ⟨.cons k bo i t items keys rest', ⟨b, off + q * 6, m, A1, n1, c1, A2, n2, c2, rfl, rfl, hblk, cell 0 _ rfl, cell 1 _ rfl, cell 2 _ rfl, cell 3 _ rfl, cell 4 _ rfl, cell 5 _ rfl, hok.nc1, hok.cm1, hok.nc2, hok.cm2, hok.kwf, hok.iwf, hok.ts, hok.at_, hok.ks, ?_⟩, ?_⟩
              · rw [show off + q * 6 + 6 = off + (q + 1) * 6 by omega]
                exact hr
              · rw [List.drop_eq_getElem_cons (by omega)]
                simp only [List.map_cons, hbk.b4, Vals.nodes, Vals.letters]
                omega
          obtain ⟨d, hd, hle⟩ := build len 0 (by omega)
          exact ⟨d, by simpa using hd, by simpa using hle⟩

/-- An argument that can be read is a value in memory; its values and letters are no more than its bulk. -/
theorem open_val_trod {tI tB tS tL tK tN : TypeId} {f0 f1 f2 f3 f4 f5 : Field} (T : ValTypes P tI tB tS tL tK tN f0 f1 f2 f3 f4 f5) {bulk : DataW H → Nat} {bulkAll : List (DataW H) → Nat} (hbk : Bulky bulk bulkAll)
    {r : Reach} {b0 : Nat} {v : Value} (hv : Value.okWide P w r b0 tN v) {d : DataW H} {ps : List MemPlace} (h : DataW.Trod enc P w base spare held tN v d ps) (hlt : ∀ p ∈ ps, p.block < w.heap.size) :
    ∃ (k : Int) (bo : Bool) (i : Int) (t : ByteArray) (A1 : Option Addr) (n1 c1 : Nat) (A2 : Option Addr) (n2 c2 : Nat) (items : Vals) (keys : List ByteArray),
      v = .agg #[.int .i64 k, .bool bo, .int .i64 i, .string t, .slice A1 n1 c1, .slice A2 n2 c2] ∧ VOk w w.heap.size k i t A1 n1 c1 A2 n2 c2 items keys ∧ items.nodes + items.letters + t.size + kz keys + 1 ≤ bulk d := by
  obtain ⟨cs, rfl, hsz⟩ := okWide_struct T.hN hv
  obtain ⟨fuel, hf⟩ := h
  have hcs : (Value.agg cs).cells.toList = cs.toList := rfl
  rw [hcs] at hf
  obtain ⟨k, bo, i, t, A1, n1, c1, A2, n2, c2, items, keys, e, hok, hle⟩ := one_val T hbk hf hlt (fun m _ => open_vals T hbk m) (by rw [Array.length_toList, hsz, T.hC])
  refine ⟨k, bo, i, t, A1, n1, c1, A2, n2, c2, items, keys, ?_, hok, hle⟩
  congr 1
  apply Array.ext'
  rw [e]
end
end Go.Proofs.YtjghindfnjfdcaaGreatDoor
