/- DERIVED. Values as constants of the web's script: the letters, in plain words. No condition. -/
import Derived.Test.YtfgekmfkaepgjaaDoorVal
import Derived.Test.YtfgekmfkaepgjaaDoorTShow
import Derived.Test.YtfgekmfkaepgjaaDoorHex
namespace Go.Proofs.YtfgekmfkaepgjaaDoor
set_option linter.unusedVariables false
open Go.RowKit
def loD : ByteArray := ⟨#[48, 49, 50, 51, 52, 53, 54, 55, 56, 57, 97, 98, 99, 100, 101, 102]⟩
def qset : List UInt8 := [60, 62, 38, 39]
def qhex (c : UInt8) : List UInt8 := [92, 117, 48, 48, dg loD (c.toNat / 16), dg loD (c.toNat % 16)]
/-- A byte within a quoted string. -/
def qc (c : UInt8) : List UInt8 :=
  if (decide ((c.toNat : Int) = 34) || decide ((c.toNat : Int) = 92)) = true then [92, c] else if (decide ((c.toNat : Int) < 32) || qset.contains c) = true then qhex c else [c]
def qcs (l : List UInt8) : List UInt8 := (l.map qc).flatten
/-- A quoted string. -/
def qS (l : List UInt8) : List UInt8 := 34 :: (qcs l ++ [34])
theorem qc_len (c : UInt8) : (qc c).length ≤ 6 := by
  unfold qc
  split
  · simp
  · split
    · simp [qhex]
    · simp
theorem qcs_len : ∀ l : List UInt8, (qcs l).length ≤ 6 * l.length
  | [] => Nat.le_refl _
  | c :: r => by
    have h1 := qcs_len r
    have h2 := qc_len c
    have e : qcs (c :: r) = qc c ++ qcs r := by simp [qcs]
    rw [e, List.length_append, List.length_cons]
    omega
theorem qS_len (l : List UInt8) : (qS l).length ≤ 6 * l.length + 2 := by
  have := qcs_len l
  unfold qS
  rw [List.length_cons, List.length_append]
  simp
  omega
theorem qcs_snoc (l : List UInt8) (c : UInt8) : qcs (l ++ [c]) = qcs l ++ qc c := by simp [qcs]
/-- What Show says of a value, as functions. -/
def leaf (k : Int) (bo : Bool) (i : Int) (t : ByteArray) : Top := ⟨k, bo, i, t, none, 0, 0, none, 0, 0⟩
noncomputable def shS (k : Int) (bo : Bool) (i : Int) (t : ByteArray) : ByteArray := Classical.choose (showIs_any (leaf k bo i t))
noncomputable def shX (k : Int) (bo : Bool) (i : Int) (t : ByteArray) : Int := Classical.choose (Classical.choose_spec (showIs_any (leaf k bo i t)))
theorem shIs (k : Int) (bo : Bool) (i : Int) (t : ByteArray) : ShowIs (leaf k bo i t) (shS k bo i t) (shX k bo i t) := Classical.choose_spec (Classical.choose_spec (showIs_any (leaf k bo i t)))
theorem shIs_top (a : Top) : ShowIs a (shS a.k a.bo a.i a.t) (shX a.k a.bo a.i a.t) := by
  obtain ⟨k, bo, i, t, A1, n1, c1, A2, n2, c2⟩ := a
  have h := shIs k bo i t
  generalize shS k bo i t = s at h
  generalize shX k bo i t = x at h
  cases h with
  | nil h => exact .nil h
  | bool h => exact .bool h
  | int h => exact .int h
  | text h => exact .text h
  | noDay h g => exact .noDay h g
  | day y m k2 h a1 a2 a3 a4 a5 a6 a7 a8 a9 => exact .day y m k2 h a1 a2 a3 a4 a5 a6 a7 a8 a9
  | none a0 a1 a2 a3 a4 a7 => exact .none a0 a1 a2 a3 a4 a7
/-- Lists and Tables. -/
def nestB (k : Int) : Bool := decide (k = 5) || decide (k = 6)
namespace Vals
/-- The first error of a row of values that are nested so deep. -/
noncomputable def qe : Vals → Int → Int
  | .nil, _ => 0
  | .cons k bo i t items _ rest, d => if (if nestB k = true then (if 12 < d then 13 else items.qe (d + 1)) else shX k bo i t) ≠ 0 then (if nestB k = true then (if 12 < d then 13 else items.qe (d + 1)) else shX k bo i t) else rest.qe d
/-- A row of items, from number j on; with keys, if they are those of a Table. -/
noncomputable def qt : Vals → Bool → List ByteArray → Nat → List UInt8
  | .nil, _, _, _ => []
  | .cons k bo i t items keys rest, tb, ks, j =>
    (if j = 0 then [] else [44]) ++ ((if tb = true then qS (ks.getD j ⟨#[]⟩).data.toList ++ [58] else []) ++
      ((if k = 0 then [110, 117, 108, 108] else if k = 5 then 91 :: (items.qt false keys 0 ++ [93]) else if k = 6 then 123 :: (items.qt true keys 0 ++ [125]) else if k = 1 ∨ k = 2 then (shS k bo i t).data.toList else qS (shS k bo i t).data.toList) ++ rest.qt tb ks (j + 1)))
end Vals
/-- The error of a value that is nested so deep. -/
noncomputable def vE (k : Int) (bo : Bool) (i : Int) (t : ByteArray) (items : Vals) (d : Int) : Int := if nestB k = true then (if 12 < d then 13 else items.qe (d + 1)) else shX k bo i t
/-- A value as a constant. -/
noncomputable def vT (k : Int) (bo : Bool) (i : Int) (t : ByteArray) (items : Vals) (keys : List ByteArray) : List UInt8 :=
  if k = 0 then [110, 117, 108, 108] else if k = 5 then 91 :: (items.qt false keys 0 ++ [93]) else if k = 6 then 123 :: (items.qt true keys 0 ++ [125]) else if k = 1 ∨ k = 2 then (shS k bo i t).data.toList else qS (shS k bo i t).data.toList
theorem qe_cons (k : Int) (bo : Bool) (i : Int) (t : ByteArray) (items : Vals) (keys : List ByteArray) (rest : Vals) (d : Int) : (Vals.cons k bo i t items keys rest).qe d = if vE k bo i t items d ≠ 0 then vE k bo i t items d else rest.qe d := rfl
theorem qt_cons (k : Int) (bo : Bool) (i : Int) (t : ByteArray) (items : Vals) (keys : List ByteArray) (rest : Vals) (tb : Bool) (ks : List ByteArray) (j : Nat) :
    (Vals.cons k bo i t items keys rest).qt tb ks j = (if j = 0 then [] else [44]) ++ ((if tb = true then qS (ks.getD j ⟨#[]⟩).data.toList ++ [58] else []) ++ (vT k bo i t items keys ++ rest.qt tb ks (j + 1))) := rfl
end Go.Proofs.YtfgekmfkaepgjaaDoor
