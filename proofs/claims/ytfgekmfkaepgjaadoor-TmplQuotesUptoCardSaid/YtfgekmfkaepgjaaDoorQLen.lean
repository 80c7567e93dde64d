/- DERIVED. How long a value's constant is at most. No condition. -/
import Derived.Test.YtfgekmfkaepgjaaDoorQChk
import Derived.Lib.ItoaLen
namespace Go.Proofs.YtfgekmfkaepgjaaDoor
set_option linter.unusedVariables false
open Go.RowKit
theorem ba_size (l : List UInt8) : (⟨l.toArray⟩ : ByteArray).size = l.length := by
  show l.toArray.size = l.length
  simp
theorem dayStr_size (y m k : Nat) : (dayStr y m k).size ≤ 20 := by
  unfold dayStr
  simp only [ByteArray.size_append, ba_size]
  have e1 : ∀ n x, (lo n x).length = n := by
    intro n x
    exact lo_len n x
  have h1 := e1 4 y
  have h2 := e1 2 m
  have h3 := e1 2 k
  have h4 : ([45] : List UInt8).length = 1 := rfl
  omega
theorem shS_size (k : Int) (bo : Bool) (i : Int) (t : ByteArray) (h0 : -9223372036854775808 ≤ i) (h1 : i ≤ 9223372036854775807) : (shS k bo i t).size ≤ t.size + 21 := by
  have h := shIs k bo i t
  generalize shS k bo i t = s at h ⊢
  generalize shX k bo i t = x at h
  cases h with
  | nil h => show 0 ≤ _; omega
  | bool h =>
    rw [ba_size]
    have : (Lib.formatBool bo).length ≤ 5 := by cases bo <;> decide
    show (Lib.formatBool bo).length ≤ _
    omega
  | int h =>
    rw [ba_size]
    have := Lib.itoa_length_le i h0 h1
    show (Lib.itoa i).length ≤ _
    omega
  | text h => show t.size ≤ _; omega
  | noDay h g => show 0 ≤ _; omega
  | day y m k2 h a1 a2 a3 a4 a5 a6 a7 a8 a9 => have := dayStr_size y m k2; omega
  | none a0 a1 a2 a3 a4 a7 => show 0 ≤ _; omega
theorem key_drop : ∀ (ks : List ByteArray) (j : Nat), (ks.getD j ⟨#[]⟩).size + kz (ks.drop (j + 1)) ≤ kz (ks.drop j)
  | [], j => by simp [kz]; rfl
  | s :: r, 0 => by simp [kz]
  | s :: r, j + 1 => by have := key_drop r j; simpa using this
namespace Vals
/-- Each integer is one. -/
def okI : Vals → Prop
  | .nil => True
  | .cons _ _ i _ c _ r => (-9223372036854775808 ≤ i ∧ i ≤ 9223372036854775807) ∧ c.okI ∧ r.okI
theorem okI_at {w : World} {B : Nat} : ∀ {d : Vals} {A : Option Addr} {n : Nat}, At w B d A n → d.okI
  | .nil, _, _, _ => trivial
  | .cons .., _, _, ⟨_, _, _, _, _, _, _, _, _, _, _, _, _, _, _, _, _, _, _, _, _, _, _, hw, _, hk, _, hr⟩ =>
    ⟨i64_wf hw, okI_at hk, okI_at hr⟩
end Vals
/-- How much room a value's constant wants at most. -/
def vM (t : ByteArray) (items : Vals) (keys : List ByteArray) : Nat := 200 * items.nodes + 190 + 8 * (t.size + kz keys + items.letters)
theorem vT_le (k : Int) (bo : Bool) (i : Int) (t : ByteArray) (items : Vals) (keys : List ByteArray) (h0 : -9223372036854775808 ≤ i ∧ i ≤ 9223372036854775807)
    (h : ∀ tb, (items.qt tb keys 0).length ≤ 200 * items.nodes + 8 * items.letters + 8 * kz (keys.drop 0)) : (vT k bo i t items keys).length ≤ 200 * items.nodes + 8 * items.letters + 8 * kz keys + 8 * t.size + 130 := by
  have hs := shS_size k bo i t h0.1 h0.2
  have hl : (shS k bo i t).data.toList.length = (shS k bo i t).size := Array.length_toList
  have hq := qS_len (shS k bo i t).data.toList
  have ht := h true
  have hf := h false
  rw [List.drop_zero] at ht hf
  unfold vT
  split
  · simp
  · split
    · simp only [List.length_cons, List.length_append, List.length_nil]; omega
    · split
      · simp only [List.length_cons, List.length_append, List.length_nil]; omega
      · split
        · omega
        · omega
theorem qt_len : ∀ (d : Vals), d.okI → ∀ (tb : Bool) (ks : List ByteArray) (j : Nat), (d.qt tb ks j).length ≤ 200 * d.nodes + 8 * d.letters + 8 * kz (ks.drop j)
  | .nil, _, tb, ks, j => by simp [Vals.qt]
  | .cons k bo i t items keys rest, h, tb, ks, j => by
    have h1 := vT_le k bo i t items keys h.1 (fun tb => qt_len items h.2.1 tb keys 0)
    have h2 := qt_len rest h.2.2 tb ks (j + 1)
    have h3 := key_drop ks j
    have h4 := qS_len (ks.getD j ⟨#[]⟩).data.toList
    have h5 : (ks.getD j ⟨#[]⟩).data.toList.length = (ks.getD j ⟨#[]⟩).size := Array.length_toList
    rw [qt_cons]
    have e1 : (if j = 0 then [] else [44] : List UInt8).length ≤ 1 := by split <;> simp
    have e2 : (if tb = true then qS (ks.getD j ⟨#[]⟩).data.toList ++ [58] else [] : List UInt8).length ≤ 6 * (ks.getD j ⟨#[]⟩).size + 3 := by
      split
      · rw [List.length_append]; simp only [List.length_cons, List.length_nil]; omega
      · simp
    rw [List.length_append, List.length_append, List.length_append]
    show _ ≤ 200 * (items.nodes + rest.nodes + 1) + 8 * (t.size + kz keys + items.letters + rest.letters) + _
    omega
theorem vT_len (k : Int) (bo : Bool) (i : Int) (t : ByteArray) (items : Vals) (keys : List ByteArray) (h0 : -9223372036854775808 ≤ i ∧ i ≤ 9223372036854775807) (h : items.okI) : (vT k bo i t items keys).length ≤ vM t items keys := by
  have := vT_le k bo i t items keys h0 (fun tb => qt_len items h tb keys 0)
  unfold vM
  omega
end Go.Proofs.YtfgekmfkaepgjaaDoor
