/- DERIVED. What list.PartAddress and the reference's AddressOfPart return. Conditions: the library's variables MaxLen and of powers of ten are as the program's text lays them; strings of at most 2^21 bytes. -/
import Derived.Test.YtlifjhglpflplaaDoorTerm
import Derived.Lib.ItoaLen
namespace Go.Proofs.YtlifjhglpflplaaDoor
set_option linter.unusedVariables false
open Go.RowKit
def itoaS (x : Int) : ByteArray := ⟨(Lib.itoa x).toArray⟩
theorem itoaS_size (x : Int) (h0 : -9223372036854775808 ≤ x) (h1 : x ≤ 9223372036854775807) : (itoaS x).size ≤ 21 := by
  have := Lib.itoa_length_le x h0 h1
  show (Lib.itoa x).toArray.size ≤ 21
  simpa using this
theorem Vars.below {w w' : World} (h : Vars w) (hb : Below w.heap.size w w') : Vars w' := ⟨h.1.below hb, Lib.tabBelow_of_tabIs (h.2 w' hb)⟩
theorem itoaS_any (x : Int) (w : World) (hv : Vars w) (h0 : -9223372036854775808 ≤ x) (h1 : x ≤ 9223372036854775807) :
    Calls Tryd.prog 41 #[.int .i64 x] w fun e w' => e = .returned (.string (itoaS x)) ∧ Below w.heap.size w w' := by
  refine (Tryd.strconv_Itoa x h0 h1 w hv.2.here).mono ?_
  rintro e w' ⟨rfl, k, os, rfl⟩
  exact ⟨rfl, Lib.below_grow _ _ (Nat.le_refl _) _ _⟩
def pageS : ByteArray := ⟨#[112, 97, 103, 101, 47]⟩
def partS (b : ByteArray) (x : Int) : ByteArray := b ++ pageS ++ itoaS x ++ slashS
theorem partS_assoc (b : ByteArray) (x : Int) : b ++ (pageS ++ itoaS x ++ slashS) = partS b x := by
  unfold partS
  rw [ByteArray.append_assoc, ByteArray.append_assoc, ByteArray.append_assoc]
theorem partS_size (b : ByteArray) (x : Int) (hb : b.size ≤ 140737488351232) (h0 : -9223372036854775808 ≤ x) (h1 : x ≤ 9223372036854775807) : (partS b x).size ≤ 140737488351259 := by
  have := itoaS_size x h0 h1
  unfold partS
  rw [ByteArray.size_append, ByteArray.size_append, ByteArray.size_append]
  have h2 : pageS.size = 5 := rfl
  have h3 : slashS.size = 1 := rfl
  omega
def partOut (b : ByteArray) (x : Int) : Value :=
  if taddrB b = false then .tuple #[.string ⟨#[]⟩, .int .i64 3] else if x < 1 ∨ 2000 < x then .tuple #[.string ⟨#[]⟩, .int .i64 2] else if x = 1 then .tuple #[.string b, .int .i64 0] else addrOut (partS b x)
end Go.Proofs.YtlifjhglpflplaaDoor
