/-
  NARROWER THAN 'FOR EVERY INPUT', by the rows' own cells (each row's printed sentence says how): ConfCompares: loops.
  DERIVED. THE GIVEN ROWS OF THIS SEAT. 3 by the template 'for every input the law returns true; each argument reads behind the call as it read before'; 0 by the template 'total and deterministic' (their statements: YtgkogoojfnkpoaaTotals.lean).
  GIVEN WITH THE SEED: the statements are not yours to turn. If you find one false, say at which input.
  Laid BY PROGRAM, IN A SANDBOX (cutbox-rows.mjs): the forced cells as the released guide's own fill.sh prints them over the translation b79fef0ee9ecff4b… (all of the seat's roots in one cut). By AI agents, Wed Nov 11 2026. No macro, syntax, notation, axiom, sorry.
-/
import Derived.Test.YtgkogoojfnkpoaaChecked
import GoSem.Claim
import GoSem.ClaimJoined
import GoSem.ClaimMapViews
import Derived.JoinedTies
import Derived.KernelRfl
namespace Go.Proofs.Ytgkogoojfnkpoaa
/- THE CELL 'sum', in the pinned program and in every row, IS THE sha256 OF THE DUMP (.gsa) THAT YtgkogoojfnkpoaaProg.lean LOADS. Nothing in Lean hashes anything: it is a label: what it is worth is what the hold of that sum in a sandbox is worth. -/
noncomputable def Try.pinned : Pinned := { name := "ytgkogoojfnkpoaa", sum := "b79fef0ee9ecff4b0b01262fda9ff9c232b5394827d3f8eda3a85bd3a2ee41a8", checked := Try.checked }
namespace Rows
def none {H : Type} : Left H := { results := [], args := [] }

/-- 'mastlaw2.DayCounts': WHATEVER THE INPUT: true; the input reads as it did. -/
def dayCountsSpec : ChangeSpec := { name := "dayCounts", fn := fun _ => fun
  | [d1, d2, d3] => { results := [.lit (.bool true)], args := [d1, d2, d3] }
  | _ => none }
def dayCountsRow : OpenClaim := { program := "ytgkogoojfnkpoaa", sum := "b79fef0ee9ecff4b0b01262fda9ff9c232b5394827d3f8eda3a85bd3a2ee41a8", func := "masthead/mastlaw2.DayCounts", spec := "dayCounts", apart := false }
def DayCountsSaid : Prop := dayCountsRow.holds Try.pinned (OpenSpec.ofChange dayCountsSpec)

/-- ITS FALSE NEIGHBOUR: 'it returns false'. Refute it at one input. -/
def dayCountsWrong : ChangeSpec := { name := "dayCounts", fn := fun _ => fun
  | [d1, d2, d3] => { results := [.lit (.bool false)], args := [d1, d2, d3] }
  | _ => none }
def DayCountsWrongFalsely : Prop := dayCountsRow.holds Try.pinned (OpenSpec.ofChange dayCountsWrong)

/-- 'mastlaw2.DayMonths': WHATEVER THE INPUT: true; the input reads as it did. -/
def dayMonthsSpec : ChangeSpec := { name := "dayMonths", fn := fun _ => fun
  | [d1, d2] => { results := [.lit (.bool true)], args := [d1, d2] }
  | _ => none }
def dayMonthsRow : OpenClaim := { program := "ytgkogoojfnkpoaa", sum := "b79fef0ee9ecff4b0b01262fda9ff9c232b5394827d3f8eda3a85bd3a2ee41a8", func := "masthead/mastlaw2.DayMonths", spec := "dayMonths", apart := false }
def DayMonthsSaid : Prop := dayMonthsRow.holds Try.pinned (OpenSpec.ofChange dayMonthsSpec)

/-- ITS FALSE NEIGHBOUR: 'it returns false'. Refute it at one input. -/
def dayMonthsWrong : ChangeSpec := { name := "dayMonths", fn := fun _ => fun
  | [d1, d2] => { results := [.lit (.bool false)], args := [d1, d2] }
  | _ => none }
def DayMonthsWrongFalsely : Prop := dayMonthsRow.holds Try.pinned (OpenSpec.ofChange dayMonthsWrong)

/-- 'mastlaw2.ConfCompares': WHATEVER THE INPUT: true; the input reads as it did. -/
def confComparesSpec : ChangeSpec := { name := "confCompares", fn := fun _ => fun
  | [d1, d2] => { results := [.lit (.bool true)], args := [d1, d2] }
  | _ => none }
def confComparesRow : OpenClaim := { program := "ytgkogoojfnkpoaa", sum := "b79fef0ee9ecff4b0b01262fda9ff9c232b5394827d3f8eda3a85bd3a2ee41a8", func := "masthead/mastlaw2.ConfCompares", spec := "confCompares", inPlace := ["internal/bytealg.abigen_runtime_cmpstring"], recurses := true, loops := true, apart := false }
def ConfComparesSaid : Prop := confComparesRow.holds Try.pinned (OpenSpec.ofChange confComparesSpec)

/-- ITS FALSE NEIGHBOUR: 'it returns false'. Refute it at one input. -/
def confComparesWrong : ChangeSpec := { name := "confCompares", fn := fun _ => fun
  | [d1, d2] => { results := [.lit (.bool false)], args := [d1, d2] }
  | _ => none }
def ConfComparesWrongFalsely : Prop := confComparesRow.holds Try.pinned (OpenSpec.ofChange confComparesWrong)

/- THE SECOND FORM. 'bulk': how many values and letters a reading holds, each counted each time it is reached (what is shared counts as often as it is met; a slice's spare places count too). A statement '..UptoSaid' is the law's where the arguments, and the package variables that the reading takes, are together of bulk at most 1048576: NARROWER than '..Said'. Prove '..Said' where nothing that the law and all that it calls make is longer than what came in: it says more and counts as full. Else prove '..UptoSaid'. A law counts once. -/
mutual
def uptoBulk {H : Type} : DataW H → Nat
  | .lit (.string bytes) => bytes.length + 1
  | .lit _ => 1
  | .nil => 1
  | .ptr d => uptoBulk d + 1
  | .slice elems spare => uptoBulkAll elems + uptoBulkAll spare + 1
  | .agg parts => uptoBulkAll parts + 1
  | .iface _ d => uptoBulk d + 1
  | .map entries => uptoBulkEntries entries + 1
  | .held _ => 1
def uptoBulkAll {H : Type} : List (DataW H) → Nat
  | [] => 0
  | d :: r => uptoBulk d + uptoBulkAll r
def uptoBulkEntries {H : Type} : List (Lit × DataW H) → Nat
  | [] => 0
  | x :: r => uptoBulkEntry x + uptoBulkEntries r
def uptoBulkEntry {H : Type} : Lit × DataW H → Nat
  | (.string bytes, d) => bytes.length + uptoBulk d + 1
  | (_, d) => uptoBulk d + 1
 end
def uptoSmall : (H : Type) → List (DataW H) → Bool := fun _ ds => decide (uptoBulkAll ds ≤ 1048576)
def OpenSpec.upto (s : _root_.Go.ChangeSpec) : _root_.Go.OpenSpec := { _root_.Go.OpenSpec.ofChange s with cond := some uptoSmall }

/-- 'mastlaw2.DayCounts', WHERE WHAT IT READS IS OF BULK AT MOST 1048576: true; the input reads as it did. -/
def dayCountsUptoRow : OpenClaim := { program := "ytgkogoojfnkpoaa", sum := "b79fef0ee9ecff4b0b01262fda9ff9c232b5394827d3f8eda3a85bd3a2ee41a8", func := "masthead/mastlaw2.DayCounts", spec := "dayCounts", apart := false, narrowed := true }
def DayCountsUptoSaid : Prop := dayCountsUptoRow.holds Try.pinned (OpenSpec.upto dayCountsSpec)

/-- 'mastlaw2.DayMonths', WHERE WHAT IT READS IS OF BULK AT MOST 1048576: true; the input reads as it did. -/
def dayMonthsUptoRow : OpenClaim := { program := "ytgkogoojfnkpoaa", sum := "b79fef0ee9ecff4b0b01262fda9ff9c232b5394827d3f8eda3a85bd3a2ee41a8", func := "masthead/mastlaw2.DayMonths", spec := "dayMonths", apart := false, narrowed := true }
def DayMonthsUptoSaid : Prop := dayMonthsUptoRow.holds Try.pinned (OpenSpec.upto dayMonthsSpec)

/-- 'mastlaw2.ConfCompares', WHERE WHAT IT READS IS OF BULK AT MOST 1048576: true; the input reads as it did. -/
def confComparesUptoRow : OpenClaim := { program := "ytgkogoojfnkpoaa", sum := "b79fef0ee9ecff4b0b01262fda9ff9c232b5394827d3f8eda3a85bd3a2ee41a8", func := "masthead/mastlaw2.ConfCompares", spec := "confCompares", inPlace := ["internal/bytealg.abigen_runtime_cmpstring"], recurses := true, loops := true, apart := false, narrowed := true }
def ConfComparesUptoSaid : Prop := confComparesUptoRow.holds Try.pinned (OpenSpec.upto confComparesSpec)

end Rows
end Go.Proofs.Ytgkogoojfnkpoaa
