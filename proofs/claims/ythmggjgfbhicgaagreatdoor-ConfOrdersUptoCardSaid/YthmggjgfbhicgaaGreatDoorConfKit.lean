/- DERIVED. The types of a value of settings in this program. No condition. -/
import Derived.Test.YthmggjgfbhicgaaGreatDoorVal
import Derived.KernelRfl
import Derived.Test.YthmggjgfbhicgaaGreatDoorProg
namespace Go.Proofs.YthmggjgfbhicgaaGreatDoor
set_option maxRecDepth 100000 in
theorem valTypes : ∃ f0 f1 f2 f3 f4 f5, ValTypes Tryz.prog 3 4 9 22 23 25 f0 f1 f2 f3 f4 f5 :=
  ⟨_, _, _, _, _, _, Tryz.underlying3, Tryz.underlying4, Tryz.underlying9, Tryz.underlying22, Tryz.underlying23, Tryz.underlying25, rfl, rfl, rfl, rfl, rfl, rfl, by kernel_rfl, by kernel_rfl, by kernel_rfl⟩
theorem bulky {H : Type} (bulk : DataW H → Nat) (bulkAll : List (DataW H) → Nat) (b1 : ∀ l, bulk (.lit (.string l)) = l.length + 1) (b2 : ∀ e s, bulk (.slice e s) = bulkAll e + bulkAll s + 1) (b3 : ∀ p, bulk (.agg p) = bulkAll p + 1)
    (b4 : ∀ y r, bulkAll (y :: r) = bulk y + bulkAll r) : Bulky (H := H) bulk bulkAll := ⟨b1, b2, b3, b4⟩
end Go.Proofs.YthmggjgfbhicgaaGreatDoor
