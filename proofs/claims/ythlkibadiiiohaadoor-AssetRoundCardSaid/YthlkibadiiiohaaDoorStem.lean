/- DERIVED. asset.endOfStem. Condition: a string that a slice can hold. -/
import Derived.Test.YthlkibadiiiohaaDoorKindOf
namespace Go.Proofs.YthlkibadiiiohaaDoor
open Go.RowKit
set_option linter.unusedVariables false
set_option linter.unusedSimpArgs false
/-- Where digits are put into a path. -/
def stemN (s : ByteArray) : Nat := if Lib.lastIndexByte s 47 + 1 < Lib.lastIndexByte s 46 then (Lib.lastIndexByte s 46).toNat else s.size
theorem stemN_le (s : ByteArray) : stemN s ≤ s.size := by
  unfold stemN
  split
  · rcases Lib.lastIndexByte_spec s 46 with ⟨h, _⟩ | ⟨i, h1, h2, _⟩ <;> omega
  · exact Nat.le_refl _
set_option maxRecDepth 100000 in
set_option maxHeartbeats 800000 in
theorem endOfStem_any (s : ByteArray) (hs : s.size < 4611686018427387904) (w : World) : Calls Tryd.prog 14 #[.string s] w fun e w' => e = .returned (.int .i64 (stemN s : Int)) ∧ w' = w := by
  have HL := Lib.hid (fun wX => Tryd.strings_LastIndexByte s 46 hs wX)
  have HS := Lib.hid (fun wX => startOf_any s hs wX)
  have hb : -1 ≤ Lib.lastIndexByte s 46 ∧ Lib.lastIndexByte s 46 < 4611686018427387904 := by
    rcases Lib.lastIndexByte_spec s 46 with ⟨h, _⟩ | ⟨i, h1, h2, _⟩ <;> omega
  have hc : -1 ≤ Lib.lastIndexByte s 47 ∧ Lib.lastIndexByte s 47 < 4611686018427387904 := by
    rcases Lib.lastIndexByte_spec s 47 with ⟨h, _⟩ | ⟨i, h1, h2, _⟩ <;> omega
  have hN : (stemN s : Int) = if Lib.lastIndexByte s 47 + 1 < Lib.lastIndexByte s 46 then Lib.lastIndexByte s 46 else (s.size : Int) := by
    unfold stemN
    split <;> omega
  generalize Lib.lastIndexByte s 46 = x at HL hb hN
  generalize Lib.lastIndexByte s 47 = y at HS hc hN
  by_cases h : y + 1 < x
  · have HN := Lib.hid (hN.trans (if_pos h))
    clear hN
    go_enter Tryd.func14, Tryd.ntmps14
    go_wp2_with fail
    refine (HL.out _).mono ?_
    rintro e w1 ⟨rfl, rfl⟩
    go_wp2_with fail
    refine (HS.out _).mono ?_
    rintro e w1 ⟨rfl, rfl⟩
    go_wp2_with fail
    go_ret
    exact ⟨by rw [HN.out]; rfl, rfl⟩
  · have HN := Lib.hid (hN.trans (if_neg h))
    clear hN
    go_enter Tryd.func14, Tryd.ntmps14
    go_wp2_with fail
    refine (HL.out _).mono ?_
    rintro e w1 ⟨rfl, rfl⟩
    go_wp2_with fail
    refine (HS.out _).mono ?_
    rintro e w1 ⟨rfl, rfl⟩
    go_wp2_with fail
    go_ret
    exact ⟨by rw [HN.out]; rfl, rfl⟩
end Go.Proofs.YthlkibadiiiohaaDoor
