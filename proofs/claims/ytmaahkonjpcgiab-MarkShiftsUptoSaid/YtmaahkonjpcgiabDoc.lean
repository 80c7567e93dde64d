/- DERIVED. Documents as a datum: how they lie in memory, that an argument which can be read is one, and when two are the same. No condition. -/
import Derived.Deep.Slices
import Derived.Deep.Fields
import Derived.Below
import Derived.ProofKit
namespace Go.Proofs.Ytmaahkonjpcgiab
open Go.ChangeShapes Go.WideShapes Go.Deep Go.RowKit

/-- A document: its first node (kind, level, text, dest, title, kids) and the nodes behind it. -/
inductive Doc where
  | nil
  | cons (k lv : Int) (t d ti : ByteArray) (kids rest : Doc)

namespace Doc
def len : Doc → Nat
  | .nil => 0
  | .cons _ _ _ _ _ _ r => r.len + 1
def nodes : Doc → Nat
  | .nil => 0
  | .cons _ _ _ _ _ c r => c.nodes + r.nodes + 1
/-- All its letters. -/
def letters : Doc → Nat
  | .nil => 0
  | .cons _ _ t d ti c r => t.size + d.size + ti.size + c.letters + r.letters
def drop : Nat → Doc → Doc
  | 0, d => d
  | _ + 1, .nil => .nil
  | i + 1, .cons _ _ _ _ _ _ r => r.drop i
theorem len_le : ∀ d : Doc, d.len ≤ d.nodes
  | .nil => Nat.le_refl _
  | .cons _ _ _ _ _ c r => by have := len_le r; simp only [len, nodes]; omega

/-- It lies in memory, below block B, as a slice with address A and length n. -/
def At (w : World) (B : Nat) : Doc → Option Addr → Nat → Prop
  | .nil, _, n => n = 0
  | .cons k lv t d ti kids rest, A, n => ∃ (b off m : Nat) (A' : Option Addr) (n' c' : Nat), A = some ⟨b, off, none⟩ ∧ n = m + 1 ∧ b < B ∧
      w.cell? ⟨b, off, none⟩ = some (.int .i64 k) ∧ w.cell? ⟨b, off + 1, none⟩ = some (.int .i64 lv) ∧ w.cell? ⟨b, off + 2, none⟩ = some (.string t) ∧ w.cell? ⟨b, off + 3, none⟩ = some (.string d) ∧
      w.cell? ⟨b, off + 4, none⟩ = some (.string ti) ∧ w.cell? ⟨b, off + 5, none⟩ = some (.slice A' n' c') ∧ n' ≤ c' ∧ c' ≤ maxLen ∧ (Lit.int .i64 k).wf = true ∧ (Lit.int .i64 lv).wf = true ∧
      t.size ≤ maxLen ∧ d.size ≤ maxLen ∧ ti.size ≤ maxLen ∧
      At w B kids A' n' ∧ At w B rest (some ⟨b, off + 6, none⟩) m

theorem At.len_eq {w : World} {B : Nat} : ∀ {d : Doc} {A : Option Addr} {n : Nat}, At w B d A n → n = d.len
  | .nil, _, _, h => h
  | .cons .., _, _, ⟨_, _, _, _, _, _, _, hn, _, _, _, _, _, _, _, _, _, _, _, _, _, _, _, hr⟩ => by
    rw [hn, At.len_eq hr]; rfl

theorem At.keep {w w' : World} {B B' : Nat} (hc : ∀ p : Addr, p.block < B → w'.cell? p = w.cell? p) (hB : B ≤ B') : ∀ {d : Doc} {A : Option Addr} {n : Nat}, At w B d A n → At w' B' d A n
  | .nil, _, _, h => h
  | .cons .., _, _, ⟨b, off, m, A', n', c', h1, h2, hb, c0, c1, c2, c3, c4, c5, h3, h4, h5, h6, h7, h8, h9, hk, hr⟩ =>
    ⟨b, off, m, A', n', c', h1, h2, Nat.lt_of_lt_of_le hb hB, (hc _ hb).trans c0, (hc _ hb).trans c1, (hc _ hb).trans c2, (hc _ hb).trans c3, (hc _ hb).trans c4, (hc _ hb).trans c5, h3, h4, h5, h6, h7, h8, h9,
      At.keep hc hB hk, At.keep hc hB hr⟩
theorem At.below {w w' : World} {B : Nat} (hb : Below B w w') {d : Doc} {A : Option Addr} {n : Nat} (h : At w B d A n) : At w' B d A n := At.keep (fun _ hp => hb.cell hp) (Nat.le_refl _) h
theorem At.more {w : World} {B B' : Nat} (hB : B ≤ B') {d : Doc} {A : Option Addr} {n : Nat} (h : At w B d A n) : At w B' d A n := At.keep (fun _ _ => rfl) hB h

/-- Element i: what it is, where it lies. -/
theorem At.get {w : World} {B : Nat} : ∀ {d : Doc} {b off n : Nat} (i : Nat), At w B d (some ⟨b, off, none⟩) n → i < n →
    ∃ k lv t dd ti kids rest, d.drop i = .cons k lv t dd ti kids rest ∧ d.drop (i + 1) = rest ∧ At w B (.cons k lv t dd ti kids rest) (some ⟨b, off + i * 6, none⟩) (n - i)
  | .nil, _, _, _, _, h, hi => by unfold At at h; omega
  | .cons k lv t dd ti kids rest, b, off, n, 0, h, _ => ⟨k, lv, t, dd, ti, kids, rest, rfl, by cases rest <;> rfl, by simpa using h⟩
  | .cons k lv t dd ti kids rest, b, off, n, i + 1, h, hi => by
    obtain ⟨b', off', m, A', n', c', h1, h2, _, _, _, _, _, _, _, _, _, _, _, _, _, _, _, hr⟩ := h
    cases h1
    obtain ⟨k1, lv1, t1, d1, ti1, kids1, rest1, e1, e2, ha⟩ := At.get i hr (by omega)
    refine ⟨k1, lv1, t1, d1, ti1, kids1, rest1, e1, e2, ?_⟩
    rw [show n - (i + 1) = m - i by omega, show off + (i + 1) * 6 = off + 6 + i * 6 by omega]
    exact ha
theorem At.base {w : World} {B : Nat} {d : Doc} {A : Option Addr} {n : Nat} (h : At w B d A n) (hn : 0 < n) : ∃ b off, A = some ⟨b, off, none⟩ ∧ b < B := by
  cases d with
  | nil => unfold At at h; omega
  | cons k lv t dd ti kids rest =>
    obtain ⟨b, off, m, A', n', c', h1, _, hb, _⟩ := h
    exact ⟨b, off, h1, hb⟩
end Doc

namespace Doc
def same : Doc → Doc → Bool
  | .nil, .nil => true
  | .cons k lv t d ti c r, .cons k' lv' t' d' ti' c' r' => (k == k' && lv == lv' && t.toList == t'.toList && d.toList == d'.toList && ti.toList == ti'.toList) && (c.same c' && r.same r')
  | _, _ => false
/-- The fields of the nodes side by side are equal, and there are as many. -/
def top : Doc → Doc → Bool
  | .nil, .nil => true
  | .cons k lv t d ti _ r, .cons k' lv' t' d' ti' _ r' => (k == k' && lv == lv' && t.toList == t'.toList && d.toList == d'.toList && ti.toList == ti'.toList) && r.top r'
  | _, _ => false
def kidsAll : Doc → Doc → Bool
  | .cons _ _ _ _ _ c r, .cons _ _ _ _ _ c' r' => c.same c' && r.kidsAll r'
  | _, _ => true
theorem same_eq : ∀ a b : Doc, a.same b = (a.top b && a.kidsAll b)
  | .nil, .nil => rfl
  | .nil, .cons .. => rfl
  | .cons .., .nil => rfl
  | .cons k lv t d ti c r, .cons k' lv' t' d' ti' c' r' => by
    unfold same top kidsAll
    rw [same_eq r r']
    cases (k == k' && lv == lv' && t.toList == t'.toList && d.toList == d'.toList && ti.toList == ti'.toList) <;> cases c.same c' <;> cases r.top r' <;> cases r.kidsAll r' <;> rfl
theorem same_refl : ∀ a : Doc, a.same a = true
  | .nil => rfl
  | .cons k lv t d ti c r => by
    have ht : (t.toList == t.toList) = true := by simp
    have hd : (d.toList == d.toList) = true := by simp
    have hti : (ti.toList == ti.toList) = true := by simp
    unfold same
    rw [same_refl c, same_refl r, ht, hd, hti]
    simp
theorem same_len : ∀ a b : Doc, a.same b = true → a.len = b.len
  | .nil, .nil, _ => rfl
  | .nil, .cons .., h => by simp [same] at h
  | .cons .., .nil, h => by simp [same] at h
  | .cons k lv t d ti c r, .cons k' lv' t' d' ti' c' r', h => by
    unfold same at h
    simp only [Bool.and_eq_true] at h
    have := same_len r r' h.2.2
    simp only [len]; omega
theorem top_len : ∀ a b : Doc, a.top b = true → a.len = b.len
  | .nil, .nil, _ => rfl
  | .nil, .cons .., h => by simp [top] at h
  | .cons .., .nil, h => by simp [top] at h
  | .cons k lv t d ti c r, .cons k' lv' t' d' ti' c' r', h => by
    unfold top at h
    simp only [Bool.and_eq_true] at h
    have := top_len r r' h.2
    simp only [len]; omega
end Doc

section
variable {H : Type} {enc : TypeId × Value → H} {P : Program} {w : World} {base : Nat} {spare : Nat → Bool} {held : Bool}

theorem open_doc {tI tS tL tN : TypeId} {f0 f1 f2 f3 f4 f5 : Field} (hI : P.underlying tI = some (.int .i64)) (hS : P.underlying tS = some .string) (hL : P.underlying tL = some (.slice tN))
    (hN : P.underlying tN = some (.struct #[f0, f1, f2, f3, f4, f5])) (h0 : f0.type = tI) (h1 : f1.type = tI) (h2 : f2.type = tS) (h3 : f3.type = tS) (h4 : f4.type = tS) (h5 : f5.type = tL)
    (hone : oneCellFields P #[f0, f1, f2, f3, f4, f5] = true) (hC : P.cellsOf tN = 6)
    (bulk : DataW H → Nat) (bulkAll : List (DataW H) → Nat) (b1 : ∀ l, bulk (.lit (.string l)) = l.length + 1) (b2 : ∀ e s, bulk (.slice e s) = bulkAll e + bulkAll s + 1) (b3 : ∀ p, bulk (.agg p) = bulkAll p + 1)
    (b4 : ∀ y r, bulkAll (y :: r) = bulk y + bulkAll r) :
    ∀ (fuel : Nat) (cs : List Value) (x : DataW H × List MemPlace), DataW.trod enc P w base spare held fuel tL cs = some x → (∀ p ∈ x.2, p.block < w.heap.size) →
      ∃ (d : Doc) (A : Option Addr) (n c : Nat), cs = [.slice A n c] ∧ n ≤ c ∧ c ≤ maxLen ∧ d.At w w.heap.size A n ∧ d.nodes + d.letters ≤ bulk x.1 := by
  intro fuel
  induction fuel using Nat.strongRecOn with
  | _ fuel ih =>
    intro cs x h hlt
    rcases DataW.trod_slice hL h with ⟨rfl, _⟩ | ⟨a, len, cap, elems, rest, n, rfl, rfl, rfl, hb, hl, hm, hlen, hel, _, _⟩
    · exact ⟨.nil, none, 0, 0, rfl, Nat.le_refl _, Nat.zero_le _, rfl, Nat.zero_le _⟩
    · refine (fun key : ∃ d : Doc, d.At w w.heap.size (some a) len ∧ d.nodes + d.letters ≤ bulkAll (elems.map (·.1)) => ?_) ?_
      · obtain ⟨d, hd, hle⟩ := key
        refine ⟨d, some a, len, cap, rfl, hl, hm, hd, ?_⟩
        simp only [b2]
        omega
      · -- element by element, from the end
        have one : ∀ i (hi : i < len), ∃ (k lv : Int) (t d ti : ByteArray) (A' : Option Addr) (n' c' : Nat) (kids : Doc), (Lit.int .i64 k).wf = true ∧ (Lit.int .i64 lv).wf = true ∧ t.size ≤ maxLen ∧ d.size ≤ maxLen ∧ ti.size ≤ maxLen ∧ n' ≤ c' ∧ c' ≤ maxLen ∧
            kids.At w w.heap.size A' n' ∧ kids.nodes + kids.letters + t.size + d.size + ti.size + 1 ≤ bulk (elems[i]'(by omega)).1 ∧ ∀ j v, [Value.int .i64 k, .int .i64 lv, .string t, .string d, .string ti, .slice A' n' c'][j]? = some v → w.cell? (a.add (i * 6 + j)) = some v := by
          intro i hi
          have hh := hel i hi
          rw [hC, List.getElem?_eq_getElem (by omega)] at hh
          obtain ⟨cs', hcs, ht⟩ := Option.bind_eq_some_iff.1 hh
          obtain ⟨_, hcl, hat⟩ := World.cells?_some hcs
          obtain ⟨ys, n1, rfl, hy, _, hyl, hf⟩ := DataW.trod_struct hN ht
          match cs', hcl, hat with
          | [v0, v1, v2, v3, v4, v5], _, hat =>
            obtain ⟨o0, k0⟩ := hone_of hone 0 f0 rfl
            obtain ⟨o1, k1⟩ := hone_of hone 1 f1 rfl
            obtain ⟨o2, k2⟩ := hone_of hone 2 f2 rfl
            obtain ⟨o3, k3⟩ := hone_of hone 3 f3 rfl
            obtain ⟨o4, k4⟩ := hone_of hone 4 f4 rfl
            obtain ⟨o5, k5⟩ := hone_of hone 5 f5 rfl
            have g0 := hf 0 f0 rfl
            have g1 := hf 1 f1 rfl
            have g2 := hf 2 f2 rfl
            have g3 := hf 3 f3 rfl
            have g4 := hf 4 f4 rfl
            have g5 := hf 5 f5 rfl
            rw [o0, k0, h0] at g0
            rw [o1, k1, h1] at g1
            rw [o2, k2, h2] at g2
            rw [o3, k3, h3] at g3
            rw [o4, k4, h4] at g4
            rw [o5, k5, h5] at g5
            rw [List.getElem?_eq_getElem (by simp at hyl; omega)] at g0 g1 g2 g3 g4 g5
            obtain ⟨k, e0, z0, w0⟩ := DataW.trod_int hI g0
            obtain ⟨lv, e1, z1, w1⟩ := DataW.trod_int hI g1
            obtain ⟨t, e2, z2, w2⟩ := DataW.trod_string hS g2
            obtain ⟨d, e3, z3, w3⟩ := DataW.trod_string hS g3
            obtain ⟨ti, e4, z4, w4⟩ := DataW.trod_string hS g4
            obtain ⟨kids, A', n', c', e5, w5, w6, hk, hle⟩ := ih n1 (by omega) _ _ g5 (fun p hp => hlt p (by
              refine List.mem_append_right _ (List.mem_flatMap.2 ⟨elems[i]'(by omega), List.mem_append_left _ (List.getElem_mem _), ?_⟩)
              rw [hy]
              exact List.mem_flatMap.2 ⟨_, List.getElem_mem _, hp⟩))
            simp at e0 e1 e2 e3 e4 e5
            subst e0 e1 e2 e3 e4 e5
            refine ⟨k, lv, t, d, ti, A', n', c', kids, w0, w1, w2, w3, w4, w5, w6, hk, ?_, fun j v hj => ?_⟩
            · rw [hy]
              match ys, hyl, z0, z1, z2, z3, z4, hle with
              | [y0, y1, y2, y3, y4, y5], _, z0, z1, z2, z3, z4, hle =>
                simp only [List.getElem_cons_zero, List.getElem_cons_succ] at z0 z1 z2 z3 z4 hle
                subst z0 z1 z2 z3 z4
                simp only [List.map_cons, List.map_nil, b3, b4, b1, Array.length_toList]
                have : t.data.size = t.size := rfl
                have : d.data.size = d.size := rfl
                have : ti.data.size = ti.size := rfl
                omega
            have hj6 : j < 6 := by
              have := (List.getElem?_eq_some_iff.1 hj).1
              simpa using this
            rw [← Go.Deep.add_add, hat j hj6]
            exact hj
        by_cases hz : len = 0
        · exact ⟨.nil, hz, Nat.zero_le _⟩
        · have hblk : a.block < w.heap.size := hlt (.cell a.block a.off) (List.mem_append_left _ (MemPlace.mem_row.2 ⟨0, by rw [hC, hlen]; omega, by simp⟩))
          obtain ⟨b, off, spot⟩ := a
          have hspot : spot = none := by
            obtain ⟨k, lv, t, d, ti, A', n', c', kids, _, _, _, _, _, _, _, _, _, hc⟩ := one 0 (by omega)
            simpa [Addr.add] using World.cell?_spot (hc 0 _ rfl)
          subst hspot
          have build : ∀ m i, i + m = len → ∃ d : Doc, d.At w w.heap.size (some ⟨b, off + i * 6, none⟩) m ∧ d.nodes + d.letters ≤ bulkAll ((elems.drop i).map (·.1)) := by
            intro m
            induction m with
            | zero => exact fun _ _ => ⟨.nil, rfl, Nat.zero_le _⟩
            | succ m ihm =>
              intro i him
              obtain ⟨rest', hr, hrle⟩ := ihm (i + 1) (by omega)
              obtain ⟨k, lv, t, d, ti, A', n', c', kids, w0, w1, w2, w3, w4, w5, w6, hk, hkle, hc⟩ := one i (by omega)
              have cell : ∀ j v, [Value.int .i64 k, .int .i64 lv, .string t, .string d, .string ti, .slice A' n' c'][j]? = some v → w.cell? ⟨b, off + i * 6 + j, none⟩ = some v := by
                intro j v hj
                have := hc j v hj
                by_cases hij : i * 6 + j = 0
                · have : i = 0 := by omega
                  have : j = 0 := by omega
                  subst i; subst j
                  simpa [Addr.add] using hc 0 v hj
                · unfold Addr.add at this
                  rw [if_neg hij, ← Nat.add_assoc] at this
                  exact this
              refine ⟨.cons k lv t d ti kids rest', ⟨b, off + i * 6, m, A', n', c', rfl, rfl, hblk, cell 0 _ rfl, cell 1 _ rfl, cell 2 _ rfl, cell 3 _ rfl, cell 4 _ rfl, cell 5 _ rfl, w5, w6, w0, w1, w2, w3, w4, hk, ?_⟩, ?_⟩
              · rw [show off + i * 6 + 6 = off + (i + 1) * 6 by omega]
                exact hr
              · rw [List.drop_eq_getElem_cons (by omega)]
                simp only [List.map_cons, b4, Doc.nodes, Doc.letters]
                omega
          obtain ⟨d, hd, hle⟩ := build len 0 (by omega)
          exact ⟨d, by simpa using hd, by simpa using hle⟩

/-- An argument that can be read is a document in memory; its nodes and letters are no more than its bulk. -/
theorem open_doc_trod {tI tS tL tN : TypeId} {f0 f1 f2 f3 f4 f5 : Field} (hI : P.underlying tI = some (.int .i64)) (hS : P.underlying tS = some .string) (hL : P.underlying tL = some (.slice tN))
    (hN : P.underlying tN = some (.struct #[f0, f1, f2, f3, f4, f5])) (h0 : f0.type = tI) (h1 : f1.type = tI) (h2 : f2.type = tS) (h3 : f3.type = tS) (h4 : f4.type = tS) (h5 : f5.type = tL)
    (hone : oneCellFields P #[f0, f1, f2, f3, f4, f5] = true) (hC : P.cellsOf tN = 6)
    (bulk : DataW H → Nat) (bulkAll : List (DataW H) → Nat) (b1 : ∀ l, bulk (.lit (.string l)) = l.length + 1) (b2 : ∀ e s, bulk (.slice e s) = bulkAll e + bulkAll s + 1) (b3 : ∀ p, bulk (.agg p) = bulkAll p + 1)
    (b4 : ∀ y r, bulkAll (y :: r) = bulk y + bulkAll r) {A : Option Addr} {n c : Nat} {d : DataW H} {ps : List MemPlace}
    (h : DataW.Trod enc P w base spare held tL (.slice A n c) d ps) (hlt : ∀ p ∈ ps, p.block < w.heap.size) :
    ∃ doc : Doc, n ≤ c ∧ c ≤ maxLen ∧ doc.At w w.heap.size A n ∧ doc.nodes + doc.letters ≤ bulk d := by
  obtain ⟨fuel, hf⟩ := h
  obtain ⟨doc, A', n', c', hcs, h1, h2, h3, h4⟩ := open_doc hI hS hL hN h0 h1 h2 h3 h4 h5 hone hC bulk bulkAll b1 b2 b3 b4 fuel _ _ hf hlt
  simp [Value.cells] at hcs
  obtain ⟨rfl, rfl, rfl⟩ := hcs
  exact ⟨doc, h1, h2, h3, h4⟩
end
end Go.Proofs.Ytmaahkonjpcgiab
