/- DERIVED. What a table has at a key, plain. No condition. -/
import Derived.Test.YteckcanghnligaaDoorKeyOrd
namespace Go.Proofs.YteckcanghnligaaDoor
namespace Vals
/-- Value j of a row alone. -/
def one : Nat → Vals → Vals
  | _, .nil => .nil
  | 0, .cons k bo i t it ks _ => .cons k bo i t it ks .nil
  | j + 1, .cons _ _ _ _ _ _ r => one j r
theorem one_drop : ∀ (j : Nat) (d : Vals) {k : Int} {bo : Bool} {i : Int} {t : ByteArray} {it : Vals} {ks : List ByteArray} {r : Vals}, d.drop j = .cons k bo i t it ks r → d.one j = .cons k bo i t it ks .nil
  | 0, .nil, _, _, _, _, _, _, _, h => by cases h
  | 0, .cons .., _, _, _, _, _, _, _, h => by
    have h' := h
    simp only [drop] at h'
    cases h'
    rfl
  | _ + 1, .nil, _, _, _, _, _, _, _, h => by cases h
  | j + 1, .cons _ _ _ _ _ _ r, _, _, _, _, _, _, _, h => one_drop j r h
theorem one_none : ∀ (j : Nat) (d : Vals), d.len ≤ j → d.one j = .nil
  | _, .nil, _ => by unfold one; rfl
  | 0, .cons .., h => by simp [len] at h
  | j + 1, .cons _ _ _ _ _ _ r, h => one_none j r (by simpa [len] using h)
/-- A row whose first value is of this kind; or none. -/
def ofKind (q : Int) : Vals → Vals
  | .nil => .nil
  | .cons k bo i t it ks r => if k = q then .cons k bo i t it ks r else .nil
def isSome : Vals → Bool
  | .nil => false
  | .cons .. => true
def kind : Vals → Int
  | .nil => 0
  | .cons k _ _ _ _ _ _ => k
def bool : Vals → Bool
  | .nil => false
  | .cons _ bo _ _ _ _ _ => bo
def int : Vals → Int
  | .nil => 0
  | .cons _ _ i _ _ _ _ => i
end Vals
/-- What a table has at a key: one value, or none. -/
def pickK (k : Int) (items : Vals) (keys : List ByteArray) (key : ByteArray) : Vals :=
  if k = 6 then (match idxK keys key with | some j => items.one j | none => .nil) else .nil
/-- A value of which the check finds no error: its keys rise, and a table has as many as items. -/
structure Good (k : Int) (items : Vals) (keys : List ByteArray) : Prop where
  rising : Rising keys
  many : k = 6 → keys.length = items.len
  lo : 0 ≤ k
  hi : k ≤ 6
theorem good_of {k : Int} {bo : Bool} {i : Int} {t : ByteArray} {n : Nat} {items : Vals} {keys : List ByteArray} (hn : n = items.len) (h : valErr leS k bo i t n keys = 0) : Good k items keys := by
  subst hn
  unfold valErr at h
  split at h
  · cases h
  · rename_i hk
    split at h
    · cases h
    · rename_i hu
      split at h
      · cases h
      · split at h
        · rename_i ht; exact absurd h ht
        · refine ⟨(keysErr_rising _ _ h).1, fun h6 => ?_, by omega, by omega⟩
          unfold unB at hu
          simp only [Bool.or_eq_true, not_or] at hu
          have := hu.2
          simp only [decide_eq_true_eq, not_and, Decidable.not_not] at this
          exact this h6
theorem good_conf {k : Int} {bo : Bool} {i : Int} {t : ByteArray} {items : Vals} {keys : List ByteArray} (h : confErr leS k bo i t items keys = 0) : Good k items keys := by
  unfold confErr at h
  split at h
  · cases h
  · split at h
    · cases h
    · unfold oneErr at h
      split at h
      · rename_i h1; exact absurd h h1
      · rename_i h1
        exact good_of rfl (Decidable.not_not.1 h1)
end Go.Proofs.YteckcanghnligaaDoor
