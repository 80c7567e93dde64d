/- DERIVED. The beginning of a document, one of its elements, where a summary ends: plain facts. No condition. -/
import Derived.Test.YtmaahkonjpcgiaaPlainDoc
set_option linter.unusedSimpArgs false
set_option linter.unusedVariables false
namespace Go.Proofs.Ytmaahkonjpcgiaa
namespace Doc
def take : Nat → Doc → Doc
  | 0, _ => .nil
  | _ + 1, .nil => .nil
  | i + 1, .cons k lv t d ti c r => .cons k lv t d ti c (take i r)
theorem At.take {w : World} {B : Nat} : ∀ (i : Nat) {a : Doc} {A : Option Addr} {n : Nat}, At w B a A n → i ≤ n → At w B (a.take i) A i
  | 0, a, _, _, _, _ => by cases a <;> rfl
  | i + 1, .nil, _, n, h, hi => by have h0 : n = 0 := h; omega
  | i + 1, .cons k lv t d ti c r, _, _, ⟨b, off, m, A', n', c', h1, h2, hb, c0, c1, c2, c3, c4, c5, h3, h4, h5, h6, h7, h8, h9, hk, hr⟩, hi =>
    ⟨b, off, i, A', n', c', h1, rfl, hb, c0, c1, c2, c3, c4, c5, h3, h4, h5, h6, h7, h8, h9, hk, At.take i hr (by omega)⟩
theorem At.one {w : World} {B : Nat} {a : Doc} {b off n : Nat} (i : Nat) (h : At w B a (some ⟨b, off, none⟩) n) (hi : i < n) : At w B ((a.drop i).take 1) (some ⟨b, off + i * 6, none⟩) 1 := by
  obtain ⟨k, lv, t, d, ti, c, r, e1, e2, h2⟩ := At.get i h hi
  rw [e1]
  exact At.take 1 h2 (by omega)
theorem size_take : ∀ (i : Nat) (a : Doc), (a.take i).letters + 2 * (a.take i).nodes ≤ a.letters + 2 * a.nodes
  | 0, a => by cases a <;> exact Nat.zero_le _
  | i + 1, .nil => Nat.le_refl _
  | i + 1, .cons _ _ t d ti c r => by
    have := size_take i r
    show (t.size + d.size + ti.size + c.letters + (r.take i).letters) + 2 * (c.nodes + (r.take i).nodes + 1) ≤ (t.size + d.size + ti.size + c.letters + r.letters) + 2 * (c.nodes + r.nodes + 1)
    omega
theorem nodes_take : ∀ (i : Nat) (a : Doc), (a.take i).nodes ≤ a.nodes
  | 0, a => by cases a <;> exact Nat.zero_le _
  | i + 1, .nil => Nat.le_refl _
  | i + 1, .cons _ _ t d ti c r => by
    have := nodes_take i r
    show (c.nodes + (r.take i).nodes + 1) ≤ (c.nodes + r.nodes + 1)
    omega
theorem err_take : ∀ (i : Nat) (a : Doc) (p : Int), a.err p = 0 → (a.take i).err p = 0
  | 0, a, _, _ => by cases a <;> rfl
  | i + 1, .nil, _, h => h
  | i + 1, .cons k lv t d ti c r, p, h => by
    obtain ⟨h1, h2, h3⟩ := err_cons h
    have := err_take i r p h3
    show (Doc.cons k lv t d ti c (r.take i)).err p = 0
    unfold err
    simp [h1, h2, this]
/-- How many words the element at the head has. -/
def headWords (a : Doc) : Nat := words ((a.take 1).plain true) false
/-- How many of the nodes a summary has: those before the number of words is reached. -/
def cut : Doc → Int → Nat → Nat
  | .nil, _, _ => 0
  | .cons k lv t d ti c r, W, s => if (s : Int) < W then cut r W (s + headWords (.cons k lv t d ti c r)) + 1 else 0
theorem cut_le : ∀ (a : Doc) (W : Int) (s : Nat), a.cut W s ≤ a.len
  | .nil, _, _ => Nat.le_refl _
  | .cons k lv t d ti c r, W, s => by
    unfold cut len
    split
    · have := cut_le r W (s + headWords (.cons k lv t d ti c r)); omega
    · omega
theorem cut_step {a : Doc} {i : Nat} {W : Int} {s : Nat} (hi : i < a.len) (hs : (s : Int) < W) : (a.drop i).cut W s = (a.drop (i + 1)).cut W (s + (a.drop i).headWords) + 1 := by
  have hl := len_drop i a
  have h2 : a.drop (i + 1) = (a.drop i).drop 1 := by
    clear hl hi
    induction i generalizing a with
    | zero => cases a <;> simp [drop]
    | succ i ih =>
      cases a with
      | nil => rfl
      | cons k lv t d ti c r => exact ih
  rw [h2]
  cases hd : a.drop i with
  | nil => rw [hd] at hl; simp [len] at hl; omega
  | cons k lv t d ti c r =>
    have e : (Doc.cons k lv t d ti c r).drop 1 = r := by cases r <;> rfl
    rw [e]
    show (if (s : Int) < W then _ else _) = _
    rw [if_pos hs]
theorem cut_stop {a : Doc} {W : Int} {s : Nat} (hs : ¬ (s : Int) < W) : a.cut W s = 0 := by
  cases a with
  | nil => rfl
  | cons k lv t d ti c r => show (if (s : Int) < W then _ else _) = _; rw [if_neg hs]
end Doc
end Go.Proofs.Ytmaahkonjpcgiaa
