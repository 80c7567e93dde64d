/- DERIVED. Pieces of a template's run as a datum, how they lie in memory, and their joined strings. No condition. -/
import Derived.Deep.Slices
import Derived.Deep.Fields
import Derived.ChangeSame
import Derived.Lib.Join
import Derived.Below
import Derived.ProofKit
namespace Go.Proofs.YtjghindfnjfdcaaGreatDoor
open Go.ChangeShapes Go.WideShapes Go.Deep Go.RowKit
set_option linter.unusedVariables false
/-- The pieces lie in memory, below block B, as a slice with address A. -/
def PiecesAt (w : World) (B : Nat) (A : Option Addr) (l : List (Int × ByteArray)) : Prop :=
  ∀ j c s, l[j]? = some (c, s) → ∃ b off, A = some ⟨b, off, none⟩ ∧ b < B ∧ w.cell? ⟨b, off + j * 2, none⟩ = some (.int .i64 c) ∧ w.cell? ⟨b, off + j * 2 + 1, none⟩ = some (.string s)
theorem PiecesAt.below {w w' : World} {B : Nat} {A : Option Addr} {l : List (Int × ByteArray)} (h : PiecesAt w B A l) (hb : Below B w w') : PiecesAt w' B A l := fun j c s hj => by
  obtain ⟨b, off, e, hlt, x0, x1⟩ := h j c s hj
  exact ⟨b, off, e, hlt, (hb.cell hlt).trans x0, (hb.cell hlt).trans x1⟩
theorem PiecesAt.more {w : World} {B B' : Nat} {A : Option Addr} {l : List (Int × ByteArray)} (h : PiecesAt w B A l) (hB : B ≤ B') : PiecesAt w B' A l := fun j c s hj => by
  obtain ⟨b, off, e, hlt, x⟩ := h j c s hj
  exact ⟨b, off, e, Nat.lt_of_lt_of_le hlt hB, x⟩
def txT (p : Int × ByteArray) : ByteArray := p.2
def skT (p : Int × ByteArray) : ByteArray := if p.1 = 1 ∨ p.1 = 2 ∨ p.1 = 3 then ⟨#[120]⟩ else if p.1 = 4 then ⟨#[47]⟩ else if p.1 = 5 then ⟨#[48]⟩ else p.2
theorem txT_size (p : Int × ByteArray) : (txT p).size ≤ p.2.size + 1 := Nat.le_succ _
theorem skT_size (p : Int × ByteArray) : (skT p).size ≤ p.2.size + 1 := by
  unfold skT
  split
  · exact Nat.le_add_left 1 _
  split
  · exact Nat.le_add_left 1 _
  split
  · exact Nat.le_add_left 1 _
  exact Nat.le_succ _
/-- All letters, and one for each. -/
def pz : List (Int × ByteArray) → Nat
  | [] => 0
  | p :: r => p.2.size + 1 + pz r
theorem pz_len : ∀ l : List (Int × ByteArray), l.length ≤ pz l
  | [] => Nat.le_refl _
  | p :: r => by have := pz_len r; simp only [List.length_cons, pz]; omega
theorem pz_take : ∀ (l : List (Int × ByteArray)) (k : Nat), pz (l.take k) ≤ pz l
  | [], k => by simp [pz]
  | p :: r, 0 => by simp [pz]
  | p :: r, k + 1 => by have := pz_take r k; simp only [List.take_succ_cons, pz]; omega
theorem pz_mem : ∀ (l : List (Int × ByteArray)) (j : Nat) (p : Int × ByteArray), l[j]? = some p → p.2.size + 1 ≤ pz l
  | [], j, p, h => by simp at h
  | a :: r, 0, p, h => by simp at h; subst h; simp only [pz]; omega
  | a :: r, j + 1, p, h => by have := pz_mem r j p (by simpa using h); simp only [pz]; omega
/-- What the pieces give, joined. -/
def cat (g : Int × ByteArray → ByteArray) (l : List (Int × ByteArray)) : List UInt8 := (l.map fun p => (g p).data.toList).flatten
theorem cat_snoc (g : Int × ByteArray → ByteArray) (l : List (Int × ByteArray)) (p : Int × ByteArray) : cat g (l ++ [p]) = cat g l ++ (g p).data.toList := by simp [cat]
theorem cat_len {g : Int × ByteArray → ByteArray} (hg : ∀ p, (g p).size ≤ p.2.size + 1) : ∀ l, (cat g l).length ≤ pz l
  | [] => Nat.le_refl _
  | p :: r => by
    have h1 := cat_len hg r
    have h2 := hg p
    have h3 : (g p).data.toList.length = (g p).size := Array.length_toList
    have e : cat g (p :: r) = (g p).data.toList ++ cat g r := by simp [cat]
    rw [e, List.length_append, h3]
    simp only [pz]
    omega
theorem take_snocL {α : Type} {l : List α} {k : Nat} {p : α} (h : l[k]? = some p) : l.take (k + 1) = l.take k ++ [p] := by
  obtain ⟨hk, rfl⟩ := List.getElem?_eq_some_iff.1 h
  exact List.take_succ_eq_append_getElem hk
theorem join_flat : ∀ xs : List (List UInt8), Lib.join xs [] = xs.flatten
  | [] => rfl
  | [x] => by simp [Lib.join_one]
  | x :: y :: r => by
    have ih := join_flat (y :: r)
    unfold Lib.join at ih ⊢
    rw [List.flatten_cons, ← ih]
    simp [List.intercalate]
theorem cat_join (g : Int × ByteArray → ByteArray) (l : List (Int × ByteArray)) : Lib.join ((l.map g).map (·.data.toList)) [] = cat g l := by
  rw [join_flat, List.map_map]
  rfl
section
variable {H : Type} {enc : TypeId × Value → H} {P : Program} {w : World} {base : Nat} {spare : Nat → Bool} {held : Bool}
theorem open_slice_fields {t e : TypeId} {fs : Array Field} {fuel : Nat} {cs : List Value} {x : DataW H × List MemPlace} (ht : P.underlying t = some (.slice e)) (he : P.underlying e = some (.struct fs))
    (hone : oneCellFields P fs = true) (hC : P.cellsOf e = fs.size) (h : DataW.trod enc P w base spare held fuel t cs = some x) :
    (cs = [.slice none 0 0] ∧ x = (.nil, [])) ∨
    ∃ (a : Addr) (len cap m : Nat) (D : Nat → DataW H) (Pl : Nat → List MemPlace), cs = [.slice (some a) len cap] ∧ base ≤ a.block ∧ len ≤ cap ∧ cap ≤ maxLen ∧ m = (if spare a.block then cap else len) ∧
      x = (.slice ((List.range len).map D) ((List.range (m - len)).map fun j => D (len + j)), MemPlace.row a (m * fs.size) ++ (List.range m).flatMap Pl) ∧
      ∀ i, i < m → ∃ (ys : List (DataW H × List MemPlace)) (n : Nat), D i = .agg (ys.map (·.1)) ∧ Pl i = ys.flatMap (·.2) ∧ ys.length = fs.size ∧
        ∀ (j : Nat) (f : Field), fs[j]? = some f → ∃ (v : Value) (y : DataW H × List MemPlace), w.cell? (a.add (i * fs.size + j)) = some v ∧ ys[j]? = some y ∧ DataW.trod enc P w base spare held n f.type [v] = some y := by
  rcases open_slice ht h with h0 | ⟨a, len, cap, m, n, D, Pl, hcs, hb, hl, hm, hmm, hx, hi⟩
  · exact .inl h0
  · refine .inr ⟨a, len, cap, m, D, Pl, hcs, hb, hl, hm, hmm, by rw [hC] at hx; exact hx, fun i him => ?_⟩
    obtain ⟨cs', hc, ht'⟩ := hi i him
    rw [hC] at hc
    obtain ⟨ys, n', hn', hy, hlen, hyl, hf⟩ := DataW.trod_struct he ht'
    obtain ⟨_, hcl, hat⟩ := World.cells?_some hc
    simp only [Prod.mk.injEq] at hy
    refine ⟨ys, n', hy.1, hy.2, hyl, fun j f hj => ?_⟩
    obtain ⟨ho, hk⟩ := hone_of hone j f hj
    have hjl : j < fs.size := (Array.getElem?_eq_some_iff.1 hj).1
    have hcell := hat j hjl
    have hv : cs'[j]? = some (cs'[j]'(by omega)) := List.getElem?_eq_getElem (by omega)
    have h1 := hf j f hj
    rw [ho, hk] at h1
    have hone' : (cs'.drop j).take 1 = [cs'[j]'(by omega)] := by
      rw [List.drop_eq_getElem_cons (by omega)]
      rfl
    rw [hone'] at h1
    have hys : ys[j]? = some (ys[j]'(by omega)) := List.getElem?_eq_getElem (by omega)
    refine ⟨_, _, ?_, hys, h1.trans hys⟩
    rw [← Go.Deep.add_add, hcell, hv]
theorem pz_bulk {bulk : DataW H → Nat} {bulkAll : List (DataW H) → Nat} (b4 : ∀ y r, bulkAll (y :: r) = bulk y + bulkAll r) (D : Nat → DataW H) (F : Nat → Int × ByteArray) :
    ∀ L : List Nat, (∀ i, i ∈ L → (F i).2.size + 1 ≤ bulk (D i)) → pz (L.map F) ≤ bulkAll (L.map D)
  | [], _ => Nat.zero_le _
  | i :: L, h => by
    have h1 := pz_bulk b4 D F L (fun j hj => h j (List.mem_cons_of_mem _ hj))
    have h2 := h i List.mem_cons_self
    simp only [List.map_cons, pz, b4]
    omega
theorem open_pieces {tI tS tL tN : TypeId} {f0 f1 : Field} (hI : P.underlying tI = some (.int .i64)) (hS : P.underlying tS = some .string) (hL : P.underlying tL = some (.slice tN))
    (hN : P.underlying tN = some (.struct #[f0, f1])) (h0 : f0.type = tI) (h1 : f1.type = tS) (hone : oneCellFields P #[f0, f1] = true) (hC : P.cellsOf tN = 2)
    {bulk : DataW H → Nat} {bulkAll : List (DataW H) → Nat} (b1 : ∀ l, bulk (.lit (.string l)) = l.length + 1) (b2 : ∀ e s, bulk (.slice e s) = bulkAll e + bulkAll s + 1) (b3 : ∀ p, bulk (.agg p) = bulkAll p + 1)
    (b4 : ∀ y r, bulkAll (y :: r) = bulk y + bulkAll r)
    {fuel : Nat} {cs : List Value} {x : DataW H × List MemPlace} (h : DataW.trod enc P w base spare held fuel tL cs = some x) (hlt : ∀ p ∈ x.2, p.block < w.heap.size) :
    ∃ (A : Option Addr) (n c : Nat) (l : List (Int × ByteArray)), cs = [.slice A n c] ∧ n = l.length ∧ PiecesAt w w.heap.size A l ∧ pz l ≤ bulk x.1 := by
  rcases open_slice_fields hL hN hone hC h with ⟨rfl, rfl⟩ | ⟨a, len, cap, m, D, Pl, rfl, hb, hl, hm, hmm, hx, hf⟩
  · exact ⟨none, 0, 0, [], rfl, rfl, fun j c s hj => by simp at hj, Nat.zero_le _⟩
  · have hlm : len ≤ m := by rw [hmm]; split <;> omega
    have one : ∀ i, i < len → ∃ p : Int × ByteArray, w.cell? (a.add (i * 2 + 0)) = some (.int .i64 p.1) ∧ w.cell? (a.add (i * 2 + 1)) = some (.string p.2) ∧ p.2.size + 1 ≤ bulk (D i) := by
      intro i hi
      obtain ⟨ys, n, hD, _, hyl, hg⟩ := hf i (by omega)
      obtain ⟨v0, y0, hc0, hy0, ht0⟩ := hg 0 f0 rfl
      obtain ⟨v1, y1, hc1, hy1, ht1⟩ := hg 1 f1 rfl
      rw [h0] at ht0
      rw [h1] at ht1
      obtain ⟨k, e0, _, _⟩ := DataW.trod_int hI ht0
      obtain ⟨s, e1, hs1, _⟩ := DataW.trod_string hS ht1
      simp at e0 e1
      subst e0 e1
      refine ⟨(k, s), hc0, hc1, ?_⟩
      match ys, hyl, hy0, hy1 with
      | [z0, z1], _, hy0, hy1 =>
        simp at hy0 hy1
        subst hy0 hy1
        rw [hD, b3, List.map_cons, List.map_cons, b4, b4, hs1, b1]
        have hsz : s.data.toList.length = s.size := Array.length_toList
        show s.size + 1 ≤ _
        omega
    obtain ⟨F, hF⟩ := Go.Deep.choose_lt one
    refine ⟨some a, len, cap, (List.range len).map F, rfl, by simp, fun j c s hj => ?_, ?_⟩
    · have hjl : j < len := by
        have := (List.getElem?_eq_some_iff.1 hj).1
        simpa using this
      have hFj : F j = (c, s) := by
        rw [List.getElem?_map, List.getElem?_range hjl] at hj
        simpa using hj
      obtain ⟨c0, c1, _⟩ := hF j hjl
      have hblk : a.block < w.heap.size := hlt (.cell a.block a.off) (by
        rw [hx]
        exact List.mem_append_left _ (MemPlace.mem_row.2 ⟨0, by show 0 < m * 2; omega, by simp⟩))
      obtain ⟨b, off, spot⟩ := a
      have hspot : spot = none := by
        obtain ⟨z0, _⟩ := hF 0 (by omega)
        simpa [Addr.add] using World.cell?_spot z0
      subst hspot
      rw [hFj] at c0 c1
      refine ⟨b, off, rfl, hblk, ?_, ?_⟩
      · by_cases hj0 : j = 0
        · subst hj0; simpa [Addr.add] using c0
        · unfold Addr.add at c0
          rw [if_neg (by omega)] at c0
          simpa using c0
      · unfold Addr.add at c1
        rw [if_neg (by omega)] at c1
        rw [Nat.add_assoc]
        exact c1
    · rw [hx, b2]
      have := pz_bulk b4 D F (List.range len) (fun i hi => (hF i (by simpa using hi)).2.2)
      show _ ≤ bulkAll ((List.range len).map D) + _ + 1
      omega
end
end Go.Proofs.YtjghindfnjfdcaaGreatDoor
