/- DERIVED. What isDigit and allDigits return. Condition: strings shorter than 2^63 bytes. -/
import Derived.Test.YteckcanghnligaaDoorRows
import Derived.Test.YteckcanghnligaaDoorAnyB
import Derived.WalkKit
import Derived.WalkSpells
import Derived.WalkLawsBesides
import Derived.Lib.Hide
namespace Go.Proofs.YteckcanghnligaaDoor
open Go.RowKit
theorem isDigit_any (c : UInt8) (w : World) :
    Calls Tryd.prog 49 #[.int .u8 c.toNat] w fun e w' => e = .returned (.bool (!nd c)) ∧ w = w' := by
  by_cases h : (48 : Int) ≤ (c.toNat : Int)
  · by_cases h' : (c.toNat : Int) ≤ 57
    all_goals
      go_enter Tryd.func49, Tryd.ntmps49
      go_wp2
      go_ret
      exact ⟨retB (by unfold nd; simp; omega), rfl⟩
  · go_enter Tryd.func49, Tryd.ntmps49
    go_wp2
    go_ret
    exact ⟨retB (by unfold nd; simp; omega), rfl⟩
end Go.Proofs.YteckcanghnligaaDoor
