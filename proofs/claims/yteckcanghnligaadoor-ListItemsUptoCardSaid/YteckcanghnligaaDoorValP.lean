/- DERIVED. Values of settings in blocks that meet a condition: how they lie, and how a row of them is put together. No condition. -/
import Derived.Test.YteckcanghnligaaDoorSv
namespace Go.Proofs.YteckcanghnligaaDoor
open Go.RowKit
set_option linter.unusedVariables false
def KeysP (w : World) (p : Nat → Prop) (l : List ByteArray) (A : Option Addr) (n : Nat) : Prop :=
  n = l.length ∧ (∀ s, s ∈ l → s.size ≤ maxLen) ∧ (0 < n → ∃ b o, A = some ⟨b, o, none⟩ ∧ p b ∧ ∀ j s, l[j]? = some s → w.cell? ⟨b, o + j, none⟩ = some (.string s))
theorem KeysP.of_at {w : World} {B : Nat} {l : List ByteArray} {A : Option Addr} {n : Nat} (h : KeysAt w B l A n) : KeysP w (· < B) l A n := h
theorem KeysP.to_at {w : World} {B : Nat} {l : List ByteArray} {A : Option Addr} {n : Nat} (h : KeysP w (· < B) l A n) : KeysAt w B l A n := h
theorem KeysP.keep {w w' : World} {p q : Nat → Prop} (hc : ∀ x : Addr, p x.block → w'.cell? x = w.cell? x) (hpq : ∀ b, p b → q b) {l : List ByteArray} {A : Option Addr} {n : Nat} (h : KeysP w p l A n) : KeysP w' q l A n := by
  refine ⟨h.1, h.2.1, fun hn => ?_⟩
  obtain ⟨b, o, e, hb, hh⟩ := h.2.2 hn
  exact ⟨b, o, e, hpq b hb, fun j s hj => (hc ⟨b, o + j, none⟩ hb).trans (hh j s hj)⟩
def vCells (k : Int) (bo : Bool) (i : Int) (t : ByteArray) (A1 : Option Addr) (n1 c1 : Nat) (A2 : Option Addr) (n2 c2 : Nat) : List Value := [.int .i64 k, .bool bo, .int .i64 i, .string t, .slice A1 n1 c1, .slice A2 n2 c2]
namespace Vals
/-- They lie in blocks that meet p. -/
def AtP (w : World) (p : Nat → Prop) : Vals → Option Addr → Nat → Prop
  | .nil, _, n => n = 0
  | .cons k bo i t items keys rest, A, n => ∃ (b off m : Nat) (A1 : Option Addr) (n1 c1 : Nat) (A2 : Option Addr) (n2 c2 : Nat), A = some ⟨b, off, none⟩ ∧ n = m + 1 ∧ p b ∧
      w.rangeAt b off (vCells k bo i t A1 n1 c1 A2 n2 c2) ∧ n1 ≤ c1 ∧ c1 ≤ maxLen ∧ n2 ≤ c2 ∧ c2 ≤ maxLen ∧ (Lit.int .i64 k).wf = true ∧ (Lit.int .i64 i).wf = true ∧
      t.size ≤ maxLen ∧ AtP w p items A1 n1 ∧ KeysP w p keys A2 n2 ∧ AtP w p rest (some ⟨b, off + 6, none⟩) m
theorem AtP.len_eq {w : World} {p : Nat → Prop} : ∀ {d : Vals} {A : Option Addr} {n : Nat}, AtP w p d A n → n = d.len
  | .nil, _, _, h => h
  | .cons .., _, _, ⟨_, _, _, _, _, _, _, _, _, _, hn, _, _, _, _, _, _, _, _, _, _, _, hr⟩ => by
    rw [hn, AtP.len_eq hr]; rfl
theorem AtP.keep {w w' : World} {p q : Nat → Prop} (hc : ∀ x : Addr, p x.block → w'.cell? x = w.cell? x) (hpq : ∀ b, p b → q b) : ∀ {d : Vals} {A : Option Addr} {n : Nat}, AtP w p d A n → AtP w' q d A n
  | .nil, _, _, h => h
  | .cons .., _, _, ⟨b, off, m, A1, n1, c1, A2, n2, c2, h1, h2, hb, hx, h3, h4, h5, h6, h7, h8, h9, hk, hs, hr⟩ =>
    ⟨b, off, m, A1, n1, c1, A2, n2, c2, h1, h2, hpq b hb, fun j v hv => (hc ⟨b, off + j, none⟩ hb).trans (hx j v hv), h3, h4, h5, h6, h7, h8, h9, AtP.keep hc hpq hk, hs.keep hc hpq, AtP.keep hc hpq hr⟩
theorem AtP.of_at {w : World} {B : Nat} : ∀ {d : Vals} {A : Option Addr} {n : Nat}, At w B d A n → AtP w (· < B) d A n
  | .nil, _, _, h => h
  | .cons .., _, _, ⟨b, off, m, A1, n1, c1, A2, n2, c2, h1, h2, hb, x0, x1, x2, x3, x4, x5, h3, h4, h5, h6, h7, h8, h9, hk, hs, hr⟩ => by
    refine ⟨b, off, m, A1, n1, c1, A2, n2, c2, h1, h2, hb, fun j v hv => ?_, h3, h4, h5, h6, h7, h8, h9, AtP.of_at hk, hs, AtP.of_at hr⟩
    match j, hv with
    | 0, hv => cases hv; exact x0
    | 1, hv => cases hv; exact x1
    | 2, hv => cases hv; exact x2
    | 3, hv => cases hv; exact x3
    | 4, hv => cases hv; exact x4
    | 5, hv => cases hv; exact x5
    | j + 6, hv => simp [vCells] at hv
theorem AtP.to_at {w : World} {B : Nat} : ∀ {d : Vals} {A : Option Addr} {n : Nat}, AtP w (· < B) d A n → At w B d A n
  | .nil, _, _, h => h
  | .cons .., _, _, ⟨b, off, m, A1, n1, c1, A2, n2, c2, h1, h2, hb, hx, h3, h4, h5, h6, h7, h8, h9, hk, hs, hr⟩ =>
    ⟨b, off, m, A1, n1, c1, A2, n2, c2, h1, h2, hb, hx 0 _ rfl, hx 1 _ rfl, hx 2 _ rfl, hx 3 _ rfl, hx 4 _ rfl, hx 5 _ rfl, h3, h4, h5, h6, h7, h8, h9, AtP.to_at hk, hs, AtP.to_at hr⟩
end Vals
/-- What a value's slices stand for, in blocks that meet p. -/
structure VP (w : World) (p : Nat → Prop) (k i : Int) (t : ByteArray) (A1 : Option Addr) (n1 c1 : Nat) (A2 : Option Addr) (n2 c2 : Nat) (items : Vals) (keys : List ByteArray) : Prop where
  nc1 : n1 ≤ c1
  cm1 : c1 ≤ maxLen
  nc2 : n2 ≤ c2
  cm2 : c2 ≤ maxLen
  kwf : (Lit.int .i64 k).wf = true
  iwf : (Lit.int .i64 i).wf = true
  ts : t.size ≤ maxLen
  at_ : items.AtP w p A1 n1
  ks : KeysP w p keys A2 n2
theorem VP.keep {w w' : World} {p q : Nat → Prop} (hc : ∀ x : Addr, p x.block → w'.cell? x = w.cell? x) (hpq : ∀ b, p b → q b) {k i : Int} {t : ByteArray} {A1 : Option Addr} {n1 c1 : Nat} {A2 : Option Addr} {n2 c2 : Nat} {items : Vals} {keys : List ByteArray}
    (h : VP w p k i t A1 n1 c1 A2 n2 c2 items keys) : VP w' q k i t A1 n1 c1 A2 n2 c2 items keys := ⟨h.nc1, h.cm1, h.nc2, h.cm2, h.kwf, h.iwf, h.ts, h.at_.keep hc hpq, h.ks.keep hc hpq⟩
theorem VP.of_ok {w : World} {B : Nat} {k i : Int} {t : ByteArray} {A1 : Option Addr} {n1 c1 : Nat} {A2 : Option Addr} {n2 c2 : Nat} {items : Vals} {keys : List ByteArray} (h : VOk w B k i t A1 n1 c1 A2 n2 c2 items keys) : VP w (· < B) k i t A1 n1 c1 A2 n2 c2 items keys :=
  ⟨h.nc1, h.cm1, h.nc2, h.cm2, h.kwf, h.iwf, h.ts, Vals.AtP.of_at h.at_, h.ks⟩
theorem VP.to_ok {w : World} {B : Nat} {k i : Int} {t : ByteArray} {A1 : Option Addr} {n1 c1 : Nat} {A2 : Option Addr} {n2 c2 : Nat} {items : Vals} {keys : List ByteArray} (h : VP w (· < B) k i t A1 n1 c1 A2 n2 c2 items keys) : VOk w B k i t A1 n1 c1 A2 n2 c2 items keys :=
  ⟨h.nc1, h.cm1, h.nc2, h.cm2, h.kwf, h.iwf, h.ts, h.at_.to_at, h.ks⟩
def Sv.okP (a : Sv) (w : World) (p : Nat → Prop) : Prop := VP w p a.k a.i a.t a.A1 a.n1 a.c1 a.A2 a.n2 a.c2 a.items a.keys
/-- A value of a row in memory; what it refers to lies in blocks that meet p. -/
def ElV (w : World) (p : Nat → Prop) (g o : Nat) : Vals → Prop
  | .nil => False
  | .cons k bo i t it ks _ => ∃ (A1 : Option Addr) (n1 c1 : Nat) (A2 : Option Addr) (n2 c2 : Nat), w.rangeAt g o (vCells k bo i t A1 n1 c1 A2 n2 c2) ∧ VP w p k i t A1 n1 c1 A2 n2 c2 it ks
theorem ElV.keep {w w' : World} {p q : Nat → Prop} {g o : Nat} (hg : ∀ j, j < 6 → w'.cell? ⟨g, o + j, none⟩ = w.cell? ⟨g, o + j, none⟩) (hc : ∀ x : Addr, p x.block → w'.cell? x = w.cell? x) (hpq : ∀ b, p b → q b) : ∀ {d : Vals}, ElV w p g o d → ElV w' q g o d
  | .nil, h => h
  | .cons .., ⟨A1, n1, c1, A2, n2, c2, hr, hv⟩ => ⟨A1, n1, c1, A2, n2, c2, fun j v hj => (hg j (by have := (List.getElem?_eq_some_iff.1 hj).1; simpa [vCells] using this)).trans (hr j v hj), hv.keep hc hpq⟩
theorem Vals.drop_succ : ∀ (j : Nat) (d : Vals) {k : Int} {bo : Bool} {i : Int} {t : ByteArray} {it : Vals} {ks : List ByteArray} {r : Vals}, d.drop j = .cons k bo i t it ks r → d.drop (j + 1) = r
  | 0, .nil, _, _, _, _, _, _, _, h => by cases h
  | 0, .cons .., _, _, _, _, _, _, _, h => by
    simp only [drop] at h
    cases h
    exact drop_zero _
  | _ + 1, .nil, _, _, _, _, _, _, _, h => by cases h
  | j + 1, .cons _ _ _ _ _ _ r, _, _, _, _, _, _, _, h => drop_succ j r h
/-- A row is what its values are. -/
theorem Vals.AtP.of_els {w : World} {p q : Nat → Prop} {g : Nat} (hg : q g) (hpq : ∀ b, p b → q b) : ∀ (d : Vals) (o : Nat), (∀ j, j < d.len → ElV w p g (o + j * 6) (d.drop j)) → d.AtP w q (some ⟨g, o, none⟩) d.len
  | .nil, _, _ => rfl
  | .cons k bo i t it ks r, o, h => by
    have h0 := h 0 (by simp only [Vals.len]; omega)
    rw [Vals.drop_zero, Nat.zero_mul, Nat.add_zero] at h0
    obtain ⟨A1, n1, c1, A2, n2, c2, hr, hv⟩ := h0
    have hv' := hv.keep (w' := w) (q := q) (fun _ _ => rfl) hpq
    refine ⟨g, o, r.len, A1, n1, c1, A2, n2, c2, rfl, rfl, hg, hr, hv'.nc1, hv'.cm1, hv'.nc2, hv'.cm2, hv'.kwf, hv'.iwf, hv'.ts, hv'.at_, hv'.ks, Vals.AtP.of_els hg hpq r (o + 6) (fun j hj => ?_)⟩
    have := h (j + 1) (by simp only [Vals.len]; omega)
    rw [show o + 6 + j * 6 = o + (j + 1) * 6 by omega]
    exact this
/-- The values of a row. -/
theorem Vals.AtP.els {w : World} {p : Nat → Prop} : ∀ {d : Vals} {g o n : Nat}, d.AtP w p (some ⟨g, o, none⟩) n → ∀ j, j < n → p g ∧ ElV w p g (o + j * 6) (d.drop j)
  | .nil, _, _, _, h, j, hj => by unfold Vals.AtP at h; omega
  | .cons k bo i t it ks r, g, o, n, ⟨b, off, m, A1, n1, c1, A2, n2, c2, h1, h2, hb, hx, h3, h4, h5, h6, h7, h8, h9, hk, hs, hr⟩, 0, hj => by
    cases h1
    rw [Vals.drop_zero, Nat.zero_mul, Nat.add_zero]
    exact ⟨hb, A1, n1, c1, A2, n2, c2, hx, h3, h4, h5, h6, h7, h8, h9, hk, hs⟩
  | .cons k bo i t it ks r, g, o, n, ⟨b, off, m, A1, n1, c1, A2, n2, c2, h1, h2, hb, hx, h3, h4, h5, h6, h7, h8, h9, hk, hs, hr⟩, j + 1, hj => by
    cases h1
    have := Vals.AtP.els hr j (by omega)
    rw [show o + (j + 1) * 6 = o + 6 + j * 6 by omega]
    exact this
theorem Vals.AtP.base {w : World} {p : Nat → Prop} {d : Vals} {A : Option Addr} {n : Nat} (h : d.AtP w p A n) (hn : 0 < n) : ∃ g o, A = some ⟨g, o, none⟩ ∧ p g := by
  cases d with
  | nil => unfold Vals.AtP at h; omega
  | cons k bo i t it ks r =>
    obtain ⟨b, off, m, A1, n1, c1, A2, n2, c2, h1, h2, hb, _⟩ := h
    exact ⟨b, off, h1, hb⟩
/-- The cells of a row, in order. -/
theorem Vals.AtP.cells {w : World} {p : Nat → Prop} : ∀ {d : Vals} {g o n : Nat}, d.AtP w p (some ⟨g, o, none⟩) n → ∃ xs : List Value, xs.length = n * 6 ∧ w.rangeAt g o xs ∧ ∀ u, u ∈ xs → u.oneCell' = true
  | .nil, _, _, _, h => by
    unfold Vals.AtP at h
    subst h
    exact ⟨[], rfl, fun j v hv => by simp at hv, (fun u hu => by cases hu)⟩
  | .cons k bo i t it ks r, g, o, n, ⟨b, off, m, A1, n1, c1, A2, n2, c2, h1, h2, hb, hx, h3, h4, h5, h6, h7, h8, h9, hk, hs, hr⟩ => by
    cases h1
    obtain ⟨xs, g1, g2, g3⟩ := Vals.AtP.cells hr
    refine ⟨vCells k bo i t A1 n1 c1 A2 n2 c2 ++ xs, by simp [vCells, g1, h2]; omega, fun j v hv => ?_, fun u hu => ?_⟩
    · by_cases hj : j < 6
      · rw [List.getElem?_append_left (by simpa [vCells] using hj)] at hv
        exact hx j v hv
      · rw [List.getElem?_append_right (by simp [vCells]; omega)] at hv
        have := g2 (j - 6) v (by simpa [vCells] using hv)
        rwa [show o + 6 + (j - 6) = o + j by omega] at this
    · rcases List.mem_append.1 hu with hu | hu
      · simp only [vCells, List.mem_cons, List.not_mem_nil, or_false] at hu
        rcases hu with rfl | rfl | rfl | rfl | rfl | rfl <;> rfl
      · exact g3 u hu
end Go.Proofs.YteckcanghnligaaDoor
