/- DERIVED. What the reference's has returns: what a table has at a key. Condition: at most 2^40 keys. -/
import Derived.Test.YtohkdckllmmfhaaGreatDoorSetting
import Derived.Deep.Cut
import Derived.Deep.CutRange
namespace Go.Proofs.YtohkdckllmmfhaaGreatDoor
set_option linter.unusedVariables false
open Go.RowKit
/-- The number of a key, or -1. -/
def idxI (l : List ByteArray) (x : ByteArray) : Int := match idxK l x with | none => -1 | some j => ((j : Nat) : Int)
theorem index_any (l : List ByteArray) (A : Option Addr) (n c : Nat) (x : ByteArray) (w : World) (hl : KeysAt w w.heap.size l A n) (hn : n ≤ 1099511627776) :
    Calls Tryz.prog 110 #[.slice A n c, .string x] w fun e w' => e = .returned (.int .i64 (idxI l x)) ∧ w' = w := by
  obtain ⟨hnl, hsz, hc⟩ := hl
  by_cases h0 : n = 0
  · subst h0
    obtain rfl : l = [] := List.eq_nil_of_length_eq_zero hnl.symm
    refine (Tryz.slices_Index_string_empty A c x w).mono ?_
    rintro e w' ⟨rfl, rfl⟩
    exact ⟨by simp [idxI, idxK, Lib.idxOfS, Lib.idxFromS], rfl⟩
  · obtain ⟨b, o, rfl, hb, hcell⟩ := hc (by omega)
    refine (Tryz.slices_Index_string b o n c l x w (by omega) (by omega) (fun j hj => ?_)).mono ?_
    · refine hcell j _ ?_
      rw [List.getD_eq_getElem?_getD, List.getElem?_eq_getElem hj]
      rfl
    · rintro e w' ⟨rfl, rfl⟩
      refine ⟨?_, rfl⟩
      rw [List.take_of_length_le (by omega), idxOf_K]
      rfl
end Go.Proofs.YtohkdckllmmfhaaGreatDoor
