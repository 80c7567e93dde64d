/-
  NARROWER THAN 'FOR EVERY INPUT', by the rows' own cells (each row's printed sentence says how): MarkPlains: loops · MarkSummaries: loops.
  DERIVED. THE GIVEN ROWS OF THIS SEAT. 5 by the template 'for every input the law returns true; each argument reads behind the call as it read before'; 0 by the template 'total and deterministic' (their statements: YtmaahkonjpcgiaaTotals.lean).
  GIVEN WITH THE SEED: the statements are not yours to turn. If you find one false, say at which input.
  Laid BY PROGRAM, IN A SANDBOX (cutbox-rows.mjs): the forced cells as the released guide's own fill.sh prints them over the translation 8387eb90bc701ba8… (all of the seat's roots in one cut). By AI agents, Wed Nov 11 2026. No macro, syntax, notation, axiom, sorry.
-/
import Derived.Test.YtmaahkonjpcgiaaChecked
import GoSem.Claim
import GoSem.ClaimJoined
import GoSem.ClaimMapViews
import Derived.JoinedTies
import Derived.KernelRfl
namespace Go.Proofs.Ytmaahkonjpcgiaa
/- THE CELL 'sum', in the pinned program and in every row, IS THE sha256 OF THE DUMP (.gsa) THAT YtmaahkonjpcgiaaProg.lean LOADS. Nothing in Lean hashes anything: it is a label: what it is worth is what the hold of that sum in a sandbox is worth. -/
noncomputable def Try.pinned : Pinned := { name := "ytmaahkonjpcgiaa", sum := "8387eb90bc701ba82ab6d8332cd3f17a9177b877b132ef572a2d93930dd9eb57", checked := Try.checked }
namespace Rows
def none {H : Type} : Left H := { results := [], args := [] }

/-- 'mastlaw1.MarkInlines': WHATEVER THE INPUT: true; the input reads as it did. -/
def markInlinesSpec : ChangeSpec := { name := "markInlines", fn := fun _ => fun
  | [d] => { results := [.lit (.bool true)], args := [d] }
  | _ => none }
def markInlinesRow : OpenClaim := { program := "ytmaahkonjpcgiaa", sum := "8387eb90bc701ba82ab6d8332cd3f17a9177b877b132ef572a2d93930dd9eb57", func := "masthead/mastlaw1.MarkInlines", spec := "markInlines", inPlace := ["internal/bytealg.IndexByteString", "internal/bytealg.IndexString"], unfollowed := true, recurses := true, named := ["internal/bytealg.MaxLen"], apart := false }
def MarkInlinesSaid : Prop := markInlinesRow.holds Try.pinned (OpenSpec.ofChange markInlinesSpec)

/-- ITS FALSE NEIGHBOUR: 'it returns false'. Refute it at one input. -/
def markInlinesWrong : ChangeSpec := { name := "markInlines", fn := fun _ => fun
  | [d] => { results := [.lit (.bool false)], args := [d] }
  | _ => none }
def MarkInlinesWrongFalsely : Prop := markInlinesRow.holds Try.pinned (OpenSpec.ofChange markInlinesWrong)

/-- 'mastlaw1.MarkEscapes': WHATEVER THE INPUT: true; the input reads as it did. -/
def markEscapesSpec : ChangeSpec := { name := "markEscapes", fn := fun _ => fun
  | [d] => { results := [.lit (.bool true)], args := [d] }
  | _ => none }
def markEscapesRow : OpenClaim := { program := "ytmaahkonjpcgiaa", sum := "8387eb90bc701ba82ab6d8332cd3f17a9177b877b132ef572a2d93930dd9eb57", func := "masthead/mastlaw1.MarkEscapes", spec := "markEscapes", inPlace := ["internal/abi.NoEscape"], apart := false }
def MarkEscapesSaid : Prop := markEscapesRow.holds Try.pinned (OpenSpec.ofChange markEscapesSpec)

/-- ITS FALSE NEIGHBOUR: 'it returns false'. Refute it at one input. -/
def markEscapesWrong : ChangeSpec := { name := "markEscapes", fn := fun _ => fun
  | [d] => { results := [.lit (.bool false)], args := [d] }
  | _ => none }
def MarkEscapesWrongFalsely : Prop := markEscapesRow.holds Try.pinned (OpenSpec.ofChange markEscapesWrong)

/-- 'mastlaw1.MarkPlains': WHATEVER THE INPUT: true; the input reads as it did. -/
def markPlainsSpec : ChangeSpec := { name := "markPlains", fn := fun _ => fun
  | [d] => { results := [.lit (.bool true)], args := [d] }
  | _ => none }
def markPlainsRow : OpenClaim := { program := "ytmaahkonjpcgiaa", sum := "8387eb90bc701ba82ab6d8332cd3f17a9177b877b132ef572a2d93930dd9eb57", func := "masthead/mastlaw1.MarkPlains", spec := "markPlains", inPlace := ["internal/bytealg.IndexByteString", "internal/abi.NoEscape"], unfollowed := true, recurses := true, loops := true, apart := false }
def MarkPlainsSaid : Prop := markPlainsRow.holds Try.pinned (OpenSpec.ofChange markPlainsSpec)

/-- ITS FALSE NEIGHBOUR: 'it returns false'. Refute it at one input. -/
def markPlainsWrong : ChangeSpec := { name := "markPlains", fn := fun _ => fun
  | [d] => { results := [.lit (.bool false)], args := [d] }
  | _ => none }
def MarkPlainsWrongFalsely : Prop := markPlainsRow.holds Try.pinned (OpenSpec.ofChange markPlainsWrong)

/-- 'mastlaw1.MarkNests': WHATEVER THE INPUT: true; the input reads as it did. -/
def markNestsSpec : ChangeSpec := { name := "markNests", fn := fun _ => fun
  | [d] => { results := [.lit (.bool true)], args := [d] }
  | _ => none }
def markNestsRow : OpenClaim := { program := "ytmaahkonjpcgiaa", sum := "8387eb90bc701ba82ab6d8332cd3f17a9177b877b132ef572a2d93930dd9eb57", func := "masthead/mastlaw1.MarkNests", spec := "markNests", apart := false }
def MarkNestsSaid : Prop := markNestsRow.holds Try.pinned (OpenSpec.ofChange markNestsSpec)

/-- ITS FALSE NEIGHBOUR: 'it returns false'. Refute it at one input. -/
def markNestsWrong : ChangeSpec := { name := "markNests", fn := fun _ => fun
  | [d] => { results := [.lit (.bool false)], args := [d] }
  | _ => none }
def MarkNestsWrongFalsely : Prop := markNestsRow.holds Try.pinned (OpenSpec.ofChange markNestsWrong)

/-- 'mastlaw1.MarkSummaries': WHATEVER THE INPUT: true; the input reads as it did. -/
def markSummariesSpec : ChangeSpec := { name := "markSummaries", fn := fun _ => fun
  | [d1, d2] => { results := [.lit (.bool true)], args := [d1, d2] }
  | _ => none }
def markSummariesRow : OpenClaim := { program := "ytmaahkonjpcgiaa", sum := "8387eb90bc701ba82ab6d8332cd3f17a9177b877b132ef572a2d93930dd9eb57", func := "masthead/mastlaw1.MarkSummaries", spec := "markSummaries", inPlace := ["internal/bytealg.IndexByteString", "internal/abi.NoEscape"], unfollowed := true, recurses := true, loops := true, apart := false }
def MarkSummariesSaid : Prop := markSummariesRow.holds Try.pinned (OpenSpec.ofChange markSummariesSpec)

/-- ITS FALSE NEIGHBOUR: 'it returns false'. Refute it at one input. -/
def markSummariesWrong : ChangeSpec := { name := "markSummaries", fn := fun _ => fun
  | [d1, d2] => { results := [.lit (.bool false)], args := [d1, d2] }
  | _ => none }
def MarkSummariesWrongFalsely : Prop := markSummariesRow.holds Try.pinned (OpenSpec.ofChange markSummariesWrong)

/- THE SECOND FORM. 'bulk': how many values and letters a reading holds, each counted each time it is reached (what is shared counts as often as it is met; a slice's spare places count too). A statement '..UptoSaid' is the law's where the arguments, and the package variables that the reading takes, are together of bulk at most 1048576: NARROWER than '..Said'. Prove '..Said' where nothing that the law and all that it calls make is longer than what came in: it says more and counts as full. Else prove '..UptoSaid'. A law counts once. -/
mutual
def uptoBulk {H : Type} : DataW H → Nat
  | .lit (.string bytes) => bytes.length + 1
  | .lit _ => 1
  | .nil => 1
  | .ptr d => uptoBulk d + 1
  | .slice elems spare => uptoBulkAll elems + uptoBulkAll spare + 1
  | .agg parts => uptoBulkAll parts + 1
  | .iface _ d => uptoBulk d + 1
  | .map entries => uptoBulkEntries entries + 1
  | .held _ => 1
def uptoBulkAll {H : Type} : List (DataW H) → Nat
  | [] => 0
  | d :: r => uptoBulk d + uptoBulkAll r
def uptoBulkEntries {H : Type} : List (Lit × DataW H) → Nat
  | [] => 0
  | x :: r => uptoBulkEntry x + uptoBulkEntries r
def uptoBulkEntry {H : Type} : Lit × DataW H → Nat
  | (.string bytes, d) => bytes.length + uptoBulk d + 1
  | (_, d) => uptoBulk d + 1
 end
def uptoSmall : (H : Type) → List (DataW H) → Bool := fun _ ds => decide (uptoBulkAll ds ≤ 1048576)
def OpenSpec.upto (s : _root_.Go.ChangeSpec) : _root_.Go.OpenSpec := { _root_.Go.OpenSpec.ofChange s with cond := some uptoSmall }

/-- 'mastlaw1.MarkInlines', WHERE WHAT IT READS IS OF BULK AT MOST 1048576: true; the input reads as it did. -/
def markInlinesUptoRow : OpenClaim := { program := "ytmaahkonjpcgiaa", sum := "8387eb90bc701ba82ab6d8332cd3f17a9177b877b132ef572a2d93930dd9eb57", func := "masthead/mastlaw1.MarkInlines", spec := "markInlines", inPlace := ["internal/bytealg.IndexByteString", "internal/bytealg.IndexString"], unfollowed := true, recurses := true, named := ["internal/bytealg.MaxLen"], apart := false, narrowed := true }
def MarkInlinesUptoSaid : Prop := markInlinesUptoRow.holds Try.pinned (OpenSpec.upto markInlinesSpec)

/-- 'mastlaw1.MarkEscapes', WHERE WHAT IT READS IS OF BULK AT MOST 1048576: true; the input reads as it did. -/
def markEscapesUptoRow : OpenClaim := { program := "ytmaahkonjpcgiaa", sum := "8387eb90bc701ba82ab6d8332cd3f17a9177b877b132ef572a2d93930dd9eb57", func := "masthead/mastlaw1.MarkEscapes", spec := "markEscapes", inPlace := ["internal/abi.NoEscape"], apart := false, narrowed := true }
def MarkEscapesUptoSaid : Prop := markEscapesUptoRow.holds Try.pinned (OpenSpec.upto markEscapesSpec)

/-- 'mastlaw1.MarkPlains', WHERE WHAT IT READS IS OF BULK AT MOST 1048576: true; the input reads as it did. -/
def markPlainsUptoRow : OpenClaim := { program := "ytmaahkonjpcgiaa", sum := "8387eb90bc701ba82ab6d8332cd3f17a9177b877b132ef572a2d93930dd9eb57", func := "masthead/mastlaw1.MarkPlains", spec := "markPlains", inPlace := ["internal/bytealg.IndexByteString", "internal/abi.NoEscape"], unfollowed := true, recurses := true, loops := true, apart := false, narrowed := true }
def MarkPlainsUptoSaid : Prop := markPlainsUptoRow.holds Try.pinned (OpenSpec.upto markPlainsSpec)

/-- 'mastlaw1.MarkNests', WHERE WHAT IT READS IS OF BULK AT MOST 1048576: true; the input reads as it did. -/
def markNestsUptoRow : OpenClaim := { program := "ytmaahkonjpcgiaa", sum := "8387eb90bc701ba82ab6d8332cd3f17a9177b877b132ef572a2d93930dd9eb57", func := "masthead/mastlaw1.MarkNests", spec := "markNests", apart := false, narrowed := true }
def MarkNestsUptoSaid : Prop := markNestsUptoRow.holds Try.pinned (OpenSpec.upto markNestsSpec)

/-- 'mastlaw1.MarkSummaries', WHERE WHAT IT READS IS OF BULK AT MOST 1048576: true; the input reads as it did. -/
def markSummariesUptoRow : OpenClaim := { program := "ytmaahkonjpcgiaa", sum := "8387eb90bc701ba82ab6d8332cd3f17a9177b877b132ef572a2d93930dd9eb57", func := "masthead/mastlaw1.MarkSummaries", spec := "markSummaries", inPlace := ["internal/bytealg.IndexByteString", "internal/abi.NoEscape"], unfollowed := true, recurses := true, loops := true, apart := false, narrowed := true }
def MarkSummariesUptoSaid : Prop := markSummariesUptoRow.holds Try.pinned (OpenSpec.upto markSummariesSpec)

end Rows
end Go.Proofs.Ytmaahkonjpcgiaa
