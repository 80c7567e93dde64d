/- DERIVED. The types of a value of settings in this program. No condition. -/
import Derived.Test.YtfgekmfkaepgjaaDoorVal
import Derived.KernelRfl
import Derived.Test.YtfgekmfkaepgjaaDoorProg
namespace Go.Proofs.YtfgekmfkaepgjaaDoor
set_option maxRecDepth 100000 in
theorem valTypes : ∃ f0 f1 f2 f3 f4 f5, ValTypes Tryd.prog 3 4 9 22 23 25 f0 f1 f2 f3 f4 f5 :=
  ⟨_, _, _, _, _, _, Tryd.underlying3, Tryd.underlying4, Tryd.underlying9, Tryd.underlying22, Tryd.underlying23, Tryd.underlying25, rfl, rfl, rfl, rfl, rfl, rfl, by kernel_rfl, by kernel_rfl, by kernel_rfl⟩
theorem bulky {H : Type} (bulk : DataW H → Nat) (bulkAll : List (DataW H) → Nat) (b1 : ∀ l, bulk (.lit (.string l)) = l.length + 1) (b2 : ∀ e s, bulk (.slice e s) = bulkAll e + bulkAll s + 1) (b3 : ∀ p, bulk (.agg p) = bulkAll p + 1)
    (b4 : ∀ y r, bulkAll (y :: r) = bulk y + bulkAll r) : Bulky (H := H) bulk bulkAll := ⟨b1, b2, b3, b4⟩
end Go.Proofs.YtfgekmfkaepgjaaDoor
