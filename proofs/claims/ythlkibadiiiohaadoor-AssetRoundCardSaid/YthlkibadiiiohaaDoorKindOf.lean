/- DERIVED. asset.KindOf, startOfLast; the reference's KindOfPath. Condition: a string that a slice can hold. -/
import Derived.Test.YthlkibadiiiohaaDoorRows
import Derived.Test.YthlkibadiiiohaaDoorShelf
import Derived.WalkKit
import Derived.WalkSpells
import Derived.WalkLawsBesides
import Derived.WalkSmall
import Derived.Laws.Rows
import Derived.Lib.Hide
namespace Go.Proofs.YthlkibadiiiohaaDoor
open Go.RowKit
set_option linter.unusedVariables false
set_option linter.unusedSimpArgs false
def kindR (r : ByteArray) : Int := if r.toList = [115, 116, 121, 108, 101] then 1 else if r.toList = [115, 99, 114, 105, 112, 116] then 2 else if r.toList = [105, 109, 97, 103, 101] then 3 else 0
def kindN (s : ByteArray) : Int := if Lib.lastIndexByte s 46 < 0 then 0 else kindR (s.extract ((Lib.lastIndexByte s 46).toNat + 1) s.size)
set_option maxRecDepth 100000 in
set_option maxHeartbeats 800000 in
theorem startOf_any (s : ByteArray) (hs : s.size < 4611686018427387904) (w : World) : Calls Tryd.prog 15 #[.string s] w fun e w' => e = .returned (.int .i64 (Lib.lastIndexByte s 47 + 1)) ∧ w' = w := by
  have HL := Lib.hid (fun wX => Tryd.strings_LastIndexByte s 47 hs wX)
  have hsp := Lib.lastIndexByte_spec s 47
  have hb : -1 ≤ Lib.lastIndexByte s 47 ∧ Lib.lastIndexByte s 47 < 4611686018427387904 := by
    rcases hsp with ⟨h, _⟩ | ⟨i, h1, h2, _⟩ <;> omega
  generalize Lib.lastIndexByte s 47 = x at HL hb
  clear hsp
  go_enter Tryd.func15, Tryd.ntmps15
  go_wp2_with fail
  refine (HL.out _).mono ?_
  rintro e w1 ⟨rfl, rfl⟩
  go_wp2_with fail
  go_ret
  exact ⟨rfl, rfl⟩
end Go.Proofs.YthlkibadiiiohaaDoor
