/- DERIVED. An element of a document as the walks read it. No condition. -/
import Derived.Test.YtmaahkonjpcgiabDoc
namespace Go.Proofs.Ytmaahkonjpcgiab
open Go.RowKit
namespace Doc
theorem drop_len' : ∀ d : Doc, d.drop d.len = .nil
  | .nil => rfl
  | .cons _ _ _ _ _ _ r => drop_len' r
theorem nodes_drop' : ∀ (i : Nat) (d : Doc), (d.drop i).nodes ≤ d.nodes
  | 0, d => by cases d <;> exact Nat.le_refl _
  | i + 1, .nil => Nat.le_refl _
  | i + 1, .cons _ _ _ _ _ c r => by
    have := nodes_drop' i r
    show (r.drop i).nodes ≤ c.nodes + r.nodes + 1
    omega
theorem drop_zero' (d : Doc) : d.drop 0 = d := by cases d <;> rfl
theorem len_drop : ∀ (i : Nat) (d : Doc), (d.drop i).len = d.len - i
  | 0, d => by cases d <;> simp [drop]
  | i + 1, .nil => by simp [drop, len]
  | i + 1, .cons _ _ _ _ _ c r => by
    have := len_drop i r
    show (r.drop i).len = r.len + 1 - (i + 1)
    omega
end Doc
/-- Element i of a document in memory, at its offset. -/
structure El (w : World) (B b o : Nat) (k lv : Int) (t d ti : ByteArray) (A : Option Addr) (n c : Nat) (kids : Doc) : Prop where
  lt : b < B
  c0 : w.cell? ⟨b, o, none⟩ = some (.int .i64 k)
  c1 : w.cell? ⟨b, o + 1, none⟩ = some (.int .i64 lv)
  c2 : w.cell? ⟨b, o + 2, none⟩ = some (.string t)
  c3 : w.cell? ⟨b, o + 3, none⟩ = some (.string d)
  c4 : w.cell? ⟨b, o + 4, none⟩ = some (.string ti)
  c5 : w.cell? ⟨b, o + 5, none⟩ = some (.slice A n c)
  nc : n ≤ c
  cm : c ≤ maxLen
  kwf : (Lit.int .i64 k).wf = true
  lwf : (Lit.int .i64 lv).wf = true
  ts : t.size ≤ maxLen
  ds : d.size ≤ maxLen
  tis : ti.size ≤ maxLen
  at_ : kids.At w B A n
theorem El.below {w w' : World} {B b o : Nat} {k lv : Int} {t d ti : ByteArray} {A : Option Addr} {n c : Nat} {kids : Doc} (h : El w B b o k lv t d ti A n c kids) (hb : Below B w w') : El w' B b o k lv t d ti A n c kids :=
  ⟨h.lt, (hb.cell h.lt).trans h.c0, (hb.cell h.lt).trans h.c1, (hb.cell h.lt).trans h.c2, (hb.cell h.lt).trans h.c3, (hb.cell h.lt).trans h.c4, (hb.cell h.lt).trans h.c5, h.nc, h.cm, h.kwf, h.lwf, h.ts, h.ds, h.tis, h.at_.below hb⟩
theorem Doc.At.el {w : World} {B : Nat} {d : Doc} {A : Option Addr} {n : Nat} (i : Nat) (h : d.At w B A n) (hi : i < n) :
    ∃ b off k lv t dd ti A' n' c' kids rest, A = some ⟨b, off, none⟩ ∧ d.drop i = .cons k lv t dd ti kids rest ∧ d.drop (i + 1) = rest ∧ El w B b (off + i * 6) k lv t dd ti A' n' c' kids := by
  obtain ⟨b, off, rfl, _⟩ := h.base (by omega)
  obtain ⟨k, lv, t, dd, ti, kids, rest, e1, e2, h2⟩ := Doc.At.get i h hi
  obtain ⟨b', off', m, A', n', c', h1, _, hb, c0, c1, c2, c3, c4, c5, h3, h4, h5, h6, h7, h8, h9, hk, _⟩ := h2
  cases h1
  exact ⟨b, off, k, lv, t, dd, ti, A', n', c', kids, rest, rfl, e1, e2, hb, c0, c1, c2, c3, c4, c5, h3, h4, h5, h6, h7, h8, h9, hk⟩
end Go.Proofs.Ytmaahkonjpcgiab
