/-
  NARROWER THAN 'FOR EVERY INPUT', by the rows' own cells (each row's printed sentence says how): MarkTargets: loops · MarkShifts: loops · MarkSames: loops.
  DERIVED. THE GIVEN ROWS OF THIS SEAT. 3 by the template 'for every input the law returns true; each argument reads behind the call as it read before'; 0 by the template 'total and deterministic' (their statements: YtmaahkonjpcgiabTotals.lean).
  GIVEN WITH THE SEED: the statements are not yours to turn. If you find one false, say at which input.
  Laid BY PROGRAM, IN A SANDBOX (cutbox-rows.mjs): the forced cells as the released guide's own fill.sh prints them over the translation c2d4feaff83991b6… (all of the seat's roots in one cut). By AI agents, Wed Nov 11 2026. No macro, syntax, notation, axiom, sorry.
-/
import Derived.Test.YtmaahkonjpcgiabChecked
import GoSem.Claim
import GoSem.ClaimJoined
import GoSem.ClaimMapViews
import Derived.JoinedTies
import Derived.KernelRfl
namespace Go.Proofs.Ytmaahkonjpcgiab
/- THE CELL 'sum', in the pinned program and in every row, IS THE sha256 OF THE DUMP (.gsa) THAT YtmaahkonjpcgiabProg.lean LOADS. Nothing in Lean hashes anything: it is a label: what it is worth is what the hold of that sum in a sandbox is worth. -/
noncomputable def Try.pinned : Pinned := { name := "ytmaahkonjpcgiab", sum := "c2d4feaff83991b657756bedefd19c5f05ff699355388720f08cc80d636f1f27", checked := Try.checked }
namespace Rows
def none {H : Type} : Left H := { results := [], args := [] }

/-- 'mastlaw1.MarkTargets': WHATEVER THE INPUT: true; the input reads as it did. -/
def markTargetsSpec : ChangeSpec := { name := "markTargets", fn := fun _ => fun
  | [d1, d2] => { results := [.lit (.bool true)], args := [d1, d2] }
  | _ => none }
def markTargetsRow : OpenClaim := { program := "ytmaahkonjpcgiab", sum := "c2d4feaff83991b657756bedefd19c5f05ff699355388720f08cc80d636f1f27", func := "masthead/mastlaw1.MarkTargets", spec := "markTargets", inPlace := ["internal/bytealg.IndexByteString"], unfollowed := true, recurses := true, loops := true, apart := false }
def MarkTargetsSaid : Prop := markTargetsRow.holds Try.pinned (OpenSpec.ofChange markTargetsSpec)

/-- ITS FALSE NEIGHBOUR: 'it returns false'. Refute it at one input. -/
def markTargetsWrong : ChangeSpec := { name := "markTargets", fn := fun _ => fun
  | [d1, d2] => { results := [.lit (.bool false)], args := [d1, d2] }
  | _ => none }
def MarkTargetsWrongFalsely : Prop := markTargetsRow.holds Try.pinned (OpenSpec.ofChange markTargetsWrong)

/-- 'mastlaw1.MarkShifts': WHATEVER THE INPUT: true; the input reads as it did. -/
def markShiftsSpec : ChangeSpec := { name := "markShifts", fn := fun _ => fun
  | [d1, d2] => { results := [.lit (.bool true)], args := [d1, d2] }
  | _ => none }
def markShiftsRow : OpenClaim := { program := "ytmaahkonjpcgiab", sum := "c2d4feaff83991b657756bedefd19c5f05ff699355388720f08cc80d636f1f27", func := "masthead/mastlaw1.MarkShifts", spec := "markShifts", inPlace := ["internal/bytealg.IndexByteString"], unfollowed := true, recurses := true, loops := true, apart := false }
def MarkShiftsSaid : Prop := markShiftsRow.holds Try.pinned (OpenSpec.ofChange markShiftsSpec)

/-- ITS FALSE NEIGHBOUR: 'it returns false'. Refute it at one input. -/
def markShiftsWrong : ChangeSpec := { name := "markShifts", fn := fun _ => fun
  | [d1, d2] => { results := [.lit (.bool false)], args := [d1, d2] }
  | _ => none }
def MarkShiftsWrongFalsely : Prop := markShiftsRow.holds Try.pinned (OpenSpec.ofChange markShiftsWrong)

/-- 'mastlaw1.MarkSames': WHATEVER THE INPUT: true; the input reads as it did. -/
def markSamesSpec : ChangeSpec := { name := "markSames", fn := fun _ => fun
  | [d1, d2] => { results := [.lit (.bool true)], args := [d1, d2] }
  | _ => none }
def markSamesRow : OpenClaim := { program := "ytmaahkonjpcgiab", sum := "c2d4feaff83991b657756bedefd19c5f05ff699355388720f08cc80d636f1f27", func := "masthead/mastlaw1.MarkSames", spec := "markSames", recurses := true, loops := true, apart := false }
def MarkSamesSaid : Prop := markSamesRow.holds Try.pinned (OpenSpec.ofChange markSamesSpec)

/-- ITS FALSE NEIGHBOUR: 'it returns false'. Refute it at one input. -/
def markSamesWrong : ChangeSpec := { name := "markSames", fn := fun _ => fun
  | [d1, d2] => { results := [.lit (.bool false)], args := [d1, d2] }
  | _ => none }
def MarkSamesWrongFalsely : Prop := markSamesRow.holds Try.pinned (OpenSpec.ofChange markSamesWrong)

/- THE SECOND FORM. 'bulk': how many values and letters a reading holds, each counted each time it is reached (what is shared counts as often as it is met; a slice's spare places count too). A statement '..UptoSaid' is the law's where the arguments, and the package variables that the reading takes, are together of bulk at most 1048576: NARROWER than '..Said'. Prove '..Said' where nothing that the law and all that it calls make is longer than what came in: it says more and counts as full. Else prove '..UptoSaid'. A law counts once. -/
mutual
def uptoBulk {H : Type} : DataW H → Nat
  | .lit (.string bytes) => bytes.length + 1
  | .lit _ => 1
  | .nil => 1
  | .ptr d => uptoBulk d + 1
  | .slice elems spare => uptoBulkAll elems + uptoBulkAll spare + 1
  | .agg parts => uptoBulkAll parts + 1
  | .iface _ d => uptoBulk d + 1
  | .map entries => uptoBulkEntries entries + 1
  | .held _ => 1
def uptoBulkAll {H : Type} : List (DataW H) → Nat
  | [] => 0
  | d :: r => uptoBulk d + uptoBulkAll r
def uptoBulkEntries {H : Type} : List (Lit × DataW H) → Nat
  | [] => 0
  | x :: r => uptoBulkEntry x + uptoBulkEntries r
def uptoBulkEntry {H : Type} : Lit × DataW H → Nat
  | (.string bytes, d) => bytes.length + uptoBulk d + 1
  | (_, d) => uptoBulk d + 1
 end
def uptoSmall : (H : Type) → List (DataW H) → Bool := fun _ ds => decide (uptoBulkAll ds ≤ 1048576)
def OpenSpec.upto (s : _root_.Go.ChangeSpec) : _root_.Go.OpenSpec := { _root_.Go.OpenSpec.ofChange s with cond := some uptoSmall }

/-- 'mastlaw1.MarkTargets', WHERE WHAT IT READS IS OF BULK AT MOST 1048576: true; the input reads as it did. -/
def markTargetsUptoRow : OpenClaim := { program := "ytmaahkonjpcgiab", sum := "c2d4feaff83991b657756bedefd19c5f05ff699355388720f08cc80d636f1f27", func := "masthead/mastlaw1.MarkTargets", spec := "markTargets", inPlace := ["internal/bytealg.IndexByteString"], unfollowed := true, recurses := true, loops := true, apart := false, narrowed := true }
def MarkTargetsUptoSaid : Prop := markTargetsUptoRow.holds Try.pinned (OpenSpec.upto markTargetsSpec)

/-- 'mastlaw1.MarkShifts', WHERE WHAT IT READS IS OF BULK AT MOST 1048576: true; the input reads as it did. -/
def markShiftsUptoRow : OpenClaim := { program := "ytmaahkonjpcgiab", sum := "c2d4feaff83991b657756bedefd19c5f05ff699355388720f08cc80d636f1f27", func := "masthead/mastlaw1.MarkShifts", spec := "markShifts", inPlace := ["internal/bytealg.IndexByteString"], unfollowed := true, recurses := true, loops := true, apart := false, narrowed := true }
def MarkShiftsUptoSaid : Prop := markShiftsUptoRow.holds Try.pinned (OpenSpec.upto markShiftsSpec)

/-- 'mastlaw1.MarkSames', WHERE WHAT IT READS IS OF BULK AT MOST 1048576: true; the input reads as it did. -/
def markSamesUptoRow : OpenClaim := { program := "ytmaahkonjpcgiab", sum := "c2d4feaff83991b657756bedefd19c5f05ff699355388720f08cc80d636f1f27", func := "masthead/mastlaw1.MarkSames", spec := "markSames", recurses := true, loops := true, apart := false, narrowed := true }
def MarkSamesUptoSaid : Prop := markSamesUptoRow.holds Try.pinned (OpenSpec.upto markSamesSpec)

end Rows
end Go.Proofs.Ytmaahkonjpcgiab
