/- DERIVED. A document in blocks of its own, in order: what lies where, how it is kept, how it is put together; and a document with other levels. No condition. -/
import Derived.Test.YtmaahkonjpcgiabCloneDoc
import Derived.Test.YtmaahkonjpcgiabChkPlain
import Derived.Deep.Upon
set_option linter.unusedSimpArgs false
set_option linter.unusedVariables false
namespace Go.Proofs.Ytmaahkonjpcgiab
open Go.RowKit
namespace Doc
/-- From offset 'off' of block R on lie the document's nodes; their kids lie in the blocks from 'lo' to 'hi', one after another. -/
def own (w : World) : Doc → Nat → Nat → Nat → Nat → Prop
  | .nil, _, _, lo, hi => lo ≤ hi
  | .cons k lv t d ti kids rest, R, off, lo, hi => ∃ (A' : Option Addr) (n' c' mid : Nat), lo ≤ mid ∧ w.rangeAt R off (ndCells k lv t d ti A' n' c') ∧ w.there R off 6 ∧ n' ≤ c' ∧ c' ≤ maxLen ∧
      (Lit.int .i64 k).wf = true ∧ (Lit.int .i64 lv).wf = true ∧ t.size ≤ maxLen ∧ d.size ≤ maxLen ∧ ti.size ≤ maxLen ∧
      (kids.len = 0 ∧ n' = 0 ∨ ∃ R', A' = some ⟨R', 0, none⟩ ∧ n' = kids.len ∧ lo ≤ R' ∧ own w kids R' 0 (R' + 1) mid) ∧ own w rest R (off + 6) mid hi
theorem own_le {w : World} : ∀ {d : Doc} {R off lo hi : Nat}, own w d R off lo hi → lo ≤ hi
  | .nil, _, _, _, _, h => h
  | .cons .., _, _, _, _, ⟨_, _, _, _, h1, _, _, _, _, _, _, _, _, _, _, h2⟩ => Nat.le_trans h1 (own_le h2)
theorem own_keep {w w' : World} : ∀ {d : Doc} {R off lo hi : Nat}, (∀ q, lo ≤ q → q < hi → w'.heap[q]? = w.heap[q]?) →
    (∀ i, off ≤ i → i < off + d.len * 6 → w'.cell? ⟨R, i, none⟩ = w.cell? ⟨R, i, none⟩ ∧ w'.frozen? ⟨R, i, none⟩ = w.frozen? ⟨R, i, none⟩) → own w d R off lo hi → own w' d R off lo hi
  | .nil, _, _, _, _, _, _, h => h
  | .cons k lv t d ti kids rest, R, off, lo, hi, hb, hc, ⟨A', n', c', mid, h1, hr, hth, h3, h4, h5, h6, h7, h8, h9, hk, ht⟩ => by
    have hmh := own_le ht
    have hc6 : ∀ j, j < 6 → w'.cell? ⟨R, off + j, none⟩ = w.cell? ⟨R, off + j, none⟩ ∧ w'.frozen? ⟨R, off + j, none⟩ = w.frozen? ⟨R, off + j, none⟩ := fun j hj => hc (off + j) (by omega) (by simp only [len]; omega)
    refine ⟨A', n', c', mid, h1, fun j v hv => ?_, fun j hj => ?_, h3, h4, h5, h6, h7, h8, h9, ?_, ?_⟩
    · have hj : j < 6 := (List.getElem?_eq_some_iff.1 hv).1
      exact (hc6 j hj).1.trans (hr j v hv)
    · rw [(hc6 j hj).1, (hc6 j hj).2]
      exact hth j hj
    · rcases hk with hk | ⟨R', e1, e2, e3, e4⟩
      · exact .inl hk
      · have hle := own_le e4
        refine .inr ⟨R', e1, e2, e3, own_keep (fun q g1 g2 => hb q (by omega) (by omega)) (fun i _ _ => ?_) e4⟩
        have hbb := hb R' e3 (by omega)
        exact ⟨World.cell?_of_block hbb, World.frozen?_of_block hbb⟩
    · refine own_keep (fun q g1 g2 => hb q (by omega) g2) (fun i g1 g2 => hc i (by omega) (by simp only [len]; omega)) ht
theorem own_at {w : World} {B : Nat} : ∀ {d : Doc} {R off lo hi : Nat}, R < B → hi ≤ B → own w d R off lo hi → At w B d (some ⟨R, off, none⟩) d.len
  | .nil, _, _, _, _, _, _, _ => rfl
  | .cons k lv t d ti kids rest, R, off, lo, hi, hR, hh, ⟨A', n', c', mid, h1, hr, hth, h3, h4, h5, h6, h7, h8, h9, hk, ht⟩ => by
    have hmh := own_le ht
    refine ⟨R, off, rest.len, A', n', c', rfl, rfl, hR, hr 0 _ rfl, hr 1 _ rfl, hr 2 _ rfl, hr 3 _ rfl, hr 4 _ rfl, hr 5 _ rfl, h3, h4, h5, h6, h7, h8, h9, ?_, own_at hR hh ht⟩
    rcases hk with ⟨e1, e2⟩ | ⟨R', e1, e2, e3, e4⟩
    · cases kids with
      | nil => exact e2
      | cons => simp [len] at e1
    · have hle := own_le e4
      rw [e1, e2]
      exact own_at (by omega) (by omega) e4
def app : Doc → Doc → Doc
  | .nil, b => b
  | .cons k lv t d ti c r, b => .cons k lv t d ti c (r.app b)
theorem own_app {w : World} : ∀ {b c : Doc} {R off lo mid hi : Nat}, own w b R off lo mid → own w c R (off + b.len * 6) mid hi → own w (b.app c) R off lo hi
  | .nil, c, R, off, lo, mid, hi, h1, h2 => by
    have h1' : lo ≤ mid := h1
    rw [show off + Doc.len .nil * 6 = off by simp [len]] at h2
    cases c with
    | nil => exact Nat.le_trans h1' h2
    | cons k lv t d ti kids rest =>
      obtain ⟨A', n', c', m2, g1, hr, hth, h3, h4, h5, h6, h7, h8, h9, hk, ht⟩ := h2
      refine ⟨A', n', c', m2, Nat.le_trans h1' g1, hr, hth, h3, h4, h5, h6, h7, h8, h9, ?_, ht⟩
      rcases hk with hk | ⟨R', e1, e2, e3, e4⟩
      · exact .inl hk
      · exact .inr ⟨R', e1, e2, Nat.le_trans h1' e3, e4⟩
  | .cons k lv t d ti kids rest, c, R, off, lo, mid, hi, ⟨A', n', c', m2, g1, hr, hth, h3, h4, h5, h6, h7, h8, h9, hk, ht⟩, h2 => by
    refine ⟨A', n', c', m2, g1, hr, hth, h3, h4, h5, h6, h7, h8, h9, hk, own_app ht ?_⟩
    rw [show off + 6 + rest.len * 6 = off + (rest.len + 1) * 6 by omega]
    exact h2
theorem app_len : ∀ b c : Doc, (b.app c).len = b.len + c.len
  | .nil, c => by simp [app, len]
  | .cons _ _ _ _ _ _ r, c => by
    have := app_len r c
    simp only [app, len]; omega
theorem app_nil : ∀ b : Doc, b.app .nil = b
  | .nil => rfl
  | .cons _ _ _ _ _ _ r => by simp only [app, app_nil r]
theorem drop_cons : ∀ {i : Nat} {a : Doc} {k lv : Int} {t d ti : ByteArray} {c r : Doc}, a.drop i = .cons k lv t d ti c r → a.drop (i + 1) = r
  | 0, a, k, lv, t, d, ti, c, r, h => by
    rw [drop_zero'] at h
    subst h
    cases r <;> rfl
  | i + 1, .nil, _, _, _, _, _, _, _, h => by cases h
  | i + 1, .cons _ _ _ _ _ _ r', k, lv, t, d, ti, c, r, h => drop_cons (i := i) (a := r') h
theorem drop_case (i : Nat) (a : Doc) (h : i < a.len) : ∃ k lv t d ti c r, a.drop i = .cons k lv t d ti c r := by
  have hl := len_drop i a
  cases hd : a.drop i with
  | nil => rw [hd] at hl; simp [len] at hl; omega
  | cons k lv t d ti c r => exact ⟨_, _, _, _, _, _, _, rfl⟩
/-- The first nodes. -/
def fst : Nat → Doc → Doc
  | 0, _ => .nil
  | _ + 1, .nil => .nil
  | i + 1, .cons k lv t d ti c r => .cons k lv t d ti c (fst i r)
theorem fst_succ : ∀ {i : Nat} {a : Doc} {k lv : Int} {t d ti : ByteArray} {c r : Doc}, a.drop i = .cons k lv t d ti c r → a.fst (i + 1) = (a.fst i).app (.cons k lv t d ti c .nil)
  | 0, a, k, lv, t, d, ti, c, r, h => by
    rw [drop_zero'] at h
    subst h
    cases r <;> rfl
  | i + 1, .nil, _, _, _, _, _, _, _, h => by cases h
  | i + 1, .cons _ _ _ _ _ _ r', k, lv, t, d, ti, c, r, h => by
    have := fst_succ (i := i) (a := r') h
    show Doc.cons _ _ _ _ _ _ (r'.fst (i + 1)) = Doc.cons _ _ _ _ _ _ ((r'.fst i).app _)
    rw [this]
theorem fst_len : ∀ (i : Nat) (a : Doc), i ≤ a.len → (a.fst i).len = i
  | 0, a, _ => by cases a <;> rfl
  | i + 1, .nil, h => by simp [len] at h
  | i + 1, .cons _ _ _ _ _ _ r, h => by
    have := fst_len i r (by simp only [len] at h; omega)
    simp only [fst, len, this]
theorem fst_all : ∀ a : Doc, a.fst a.len = a
  | .nil => rfl
  | .cons _ _ _ _ _ _ r => by
    have := fst_all r
    show Doc.cons _ _ _ _ _ _ (r.fst r.len) = _
    rw [this]
/-- The level of a node that is shifted. -/
def lev (k lv by_ : Int) : Int := if k = 1 then min (max (lv + by_) 1) 6 else lv
def shift : Doc → Int → Doc
  | .nil, _ => .nil
  | .cons k lv t d ti c r, b => .cons k (lev k lv b) t d ti (c.shift b) (r.shift b)
theorem shift_len : ∀ (a : Doc) (b : Int), (a.shift b).len = a.len
  | .nil, _ => rfl
  | .cons _ _ _ _ _ _ r, b => by simp only [shift, len, shift_len r b]
theorem shift_app : ∀ (a c : Doc) (b : Int), (a.app c).shift b = (a.shift b).app (c.shift b)
  | .nil, _, _ => rfl
  | .cons _ _ _ _ _ _ r, c, b => by simp only [app, shift, shift_app r c b]
/-- Headings' levels are 1 to 6. -/
def lvOk : Doc → Prop
  | .nil => True
  | .cons k lv _ _ _ c r => (k = 1 → 1 ≤ lv ∧ lv ≤ 6) ∧ c.lvOk ∧ r.lvOk
theorem lvOk_drop : ∀ (i : Nat) (a : Doc), a.lvOk → (a.drop i).lvOk
  | 0, a, h => by cases a <;> exact h
  | i + 1, .nil, h => h
  | i + 1, .cons _ _ _ _ _ _ r, h => lvOk_drop i r h.2.2
theorem lvOk_of_err : ∀ (a : Doc) (p : Int), a.err p = 0 → a.lvOk
  | .nil, _, _ => trivial
  | .cons k lv t d ti c r, p, h => by
    have h1 : nodeErr k lv t d ti c.len p = 0 ∧ c.err k = 0 ∧ r.err p = 0 := by
      unfold err at h
      by_cases h1 : nodeErr k lv t d ti c.len p = 0
      · by_cases h2 : c.err k = 0
        · simp [h1, h2] at h; exact ⟨h1, h2, h⟩
        · simp [h1, h2] at h
      · simp [h1] at h
    refine ⟨fun hk => ?_, lvOk_of_err c k h1.2.1, lvOk_of_err r p h1.2.2⟩
    have h2 := h1.1
    unfold nodeErr at h2
    by_cases g1 : fitB k p = false
    · rw [if_pos g1] at h2; simp at h2
    · rw [if_neg g1] at h2
      by_cases g2 : rngB k lv = true
      · rw [if_pos g2] at h2; simp at h2
      · unfold rngB at g2
        simp at g2
        omega
end Doc
/-- What a walk that writes into the nodes from o1 to o2 of block R, and into the blocks from lo to hi, leaves. -/
structure Turned (R o1 o2 lo hi : Nat) (w w' : World) : Prop where
  size : w'.heap.size = w.heap.size
  os : w'.os = w.os
  tape : w'.tape = w.tape
  output : w'.output = w.output
  block : ∀ q, q ≠ R → ¬ (lo ≤ q ∧ q < hi) → w'.heap[q]? = w.heap[q]?
  row : ∀ i, i < o1 ∨ o2 ≤ i → w'.cell? ⟨R, i, none⟩ = w.cell? ⟨R, i, none⟩
  frozen : ∀ i, w'.frozen? ⟨R, i, none⟩ = w.frozen? ⟨R, i, none⟩
theorem Turned.refl (R o1 o2 lo hi : Nat) (w : World) : Turned R o1 o2 lo hi w w := ⟨rfl, rfl, rfl, rfl, fun _ _ _ => rfl, fun _ _ => rfl, fun _ => rfl⟩
theorem Turned.trans {R o1 o2 o3 lo mid hi : Nat} {a b c : World} (h12 : o1 ≤ o2) (h23 : o2 ≤ o3) (hlm : lo ≤ mid) (hmh : mid ≤ hi) (h : Turned R o1 o2 lo mid a b) (k : Turned R o2 o3 mid hi b c) : Turned R o1 o3 lo hi a c :=
  ⟨k.size.trans h.size, k.os.trans h.os, k.tape.trans h.tape, k.output.trans h.output, fun q g1 g2 => (k.block q g1 (by omega)).trans (h.block q g1 (by omega)),
   fun i hi => (k.row i (by omega)).trans (h.row i (by omega)), fun i => (k.frozen i).trans (h.frozen i)⟩
end Go.Proofs.Ytmaahkonjpcgiab
