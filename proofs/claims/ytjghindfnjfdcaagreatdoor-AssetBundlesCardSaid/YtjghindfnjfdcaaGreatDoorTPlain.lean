/- DERIVED. Parts of paths, paths, addresses: plain facts. No condition. -/
import Derived.Test.YtjghindfnjfdcaaGreatDoorConfPlain
import Derived.Lib.IndexLaws
import Derived.Shelf.Strings.Split
namespace Go.Proofs.YtjghindfnjfdcaaGreatDoor
/-- A byte that divides words in a part. -/
def markB (c : UInt8) : Bool := (c == 45) || (c == 95) || (c == 46)
/-- A byte that cannot be in a part of a path. -/
def tnB (c : UInt8) : Bool := !smallB c && nd c && !markB c
def tpartB (s : ByteArray) : Bool := decide (0 < s.size) && decide (s.size ≤ 40) && !(s.toList == [46]) && !(s.toList == [46, 46]) && !(s.data.toList.any tnB)
def slashS : ByteArray := ⟨#[47]⟩
def tparts (s : ByteArray) : List ByteArray := Lib.splitB slashS 0 (Lib.countB s slashS) s
def tpathB (s : ByteArray) : Bool := decide (s.size ≤ 200) && (tparts s).all tpartB
theorem splitB_size' (sep : ByteArray) : ∀ (k : Nat) (s x : ByteArray), x ∈ Lib.splitB sep 0 k s → x.size ≤ s.size
  | 0, s, x, h => by
    rw [Lib.splitB_zero] at h
    rw [List.mem_singleton.1 h]
    exact Nat.le_refl _
  | k + 1, s, x, h => by
    unfold Lib.splitB at h
    split at h
    · rw [List.mem_singleton.1 h]; exact Nat.le_refl _
    · rcases List.mem_cons.1 h with rfl | h
      · simp; omega
      · have := splitB_size' sep k _ x h
        simp at this
        omega
theorem tparts_size (s x : ByteArray) (h : x ∈ tparts s) : x.size ≤ s.size := splitB_size' slashS _ s x h
theorem tparts_len (s : ByteArray) : (tparts s).length = Lib.countB s slashS + 1 := Lib.splitB_all slashS (by decide) 0 _ s rfl
theorem all_take' {ok : ByteArray → Bool} {l : List ByteArray} {k : Nat} {x : ByteArray} (h : l[k]? = some x) (h0 : (l.take k).all ok = true) (hx : ok x = true) : (l.take (k + 1)).all ok = true := by
  rw [List.take_add_one, h, List.all_append, h0]
  simp [hx]
theorem all_not' {ok : ByteArray → Bool} {l : List ByteArray} {k : Nat} {x : ByteArray} (h : l[k]? = some x) (hx : ok x = false) : l.all ok = false := by
  rw [List.all_eq_false]
  exact ⟨x, List.mem_of_getElem? h, by rw [hx]; simp⟩
end Go.Proofs.YtjghindfnjfdcaaGreatDoor
