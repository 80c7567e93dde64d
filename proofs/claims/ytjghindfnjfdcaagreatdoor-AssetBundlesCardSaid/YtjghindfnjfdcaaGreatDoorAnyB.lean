/- DERIVED. Bytes of a string, one after the other: whether some of them have a property; ways to end a call. No condition. -/
import Derived.WalkKit
import Derived.ProofKit
namespace Go.Proofs.YtjghindfnjfdcaaGreatDoor
theorem any_hit {p : UInt8 → Bool} {s : ByteArray} {k : Nat} (h : k < s.size) (hp : p s[k] = true) : s.data.toList.any p = true := by
  refine List.any_eq_true.2 ⟨s[k], ?_, hp⟩
  have : s[k] = s.data.toList[k]'(by simpa using h) := rfl
  rw [this]
  exact List.getElem_mem _
theorem any_snoc {p : UInt8 → Bool} {s : ByteArray} {k : Nat} (h : k < s.size) (h0 : (s.data.toList.take k).any p = false) (hp : p s[k] = false) : (s.data.toList.take (k + 1)).any p = false := by
  have e : s.data.toList.take (k + 1) = s.data.toList.take k ++ [s[k]] := by rw [List.take_succ_eq_append_getElem (by simpa using h)]; rfl
  rw [e, List.any_append, h0]
  simp [hp]
theorem any_all {p : UInt8 → Bool} {s : ByteArray} {k : Nat} (h : k = s.size) (h0 : (s.data.toList.take k).any p = false) : s.data.toList.any p = false := by
  rw [h, List.take_of_length_le (by simp)] at h0
  exact h0
theorem retB {a b : Bool} (h : a = b) : Ending.returned (.bool b) = .returned (.bool a) := by rw [h]
theorem retI {a b : Int} (h : a = b) : Ending.returned (.int .i64 b) = .returned (.int .i64 a) := by rw [h]
/-- A byte that is no digit. -/
def nd (c : UInt8) : Bool := decide (c.toNat < 48) || decide (57 < c.toNat)
def allD (l : List UInt8) : Bool := !(l.any nd)
end Go.Proofs.YtjghindfnjfdcaaGreatDoor
