/-
  No cell of these rows narrows 'for every input' (looked for: loops, veiled, ifaces, maps, wideKeys, modest, calm, conditions, laid).
  DERIVED. THE GIVEN ROWS OF THIS SEAT. 4 by the template 'for every input the law returns true; each argument reads behind the call as it read before'; 0 by the template 'total and deterministic' (their statements: YtkkimcefjelnbaaTotals.lean).
  GIVEN WITH THE SEED: the statements are not yours to turn. If you find one false, say at which input.
  Laid BY PROGRAM, IN A SANDBOX (cutbox-rows.mjs): the forced cells as the released guide's own fill.sh prints them over the translation 5717c7c7fda4f127… (all of the seat's roots in one cut). By AI agents, Wed Nov 11 2026. No macro, syntax, notation, axiom, sorry.
-/
import Derived.Test.YtkkimcefjelnbaaChecked
import GoSem.Claim
import GoSem.ClaimJoined
import GoSem.ClaimMapViews
import Derived.JoinedTies
import Derived.KernelRfl
namespace Go.Proofs.Ytkkimcefjelnbaa
/- THE CELL 'sum', in the pinned program and in every row, IS THE sha256 OF THE DUMP (.gsa) THAT YtkkimcefjelnbaaProg.lean LOADS. Nothing in Lean hashes anything: it is a label: what it is worth is what the hold of that sum in a sandbox is worth. -/
noncomputable def Try.pinned : Pinned := { name := "ytkkimcefjelnbaa", sum := "5717c7c7fda4f1270166e2063648c34577d1b4d041ad6619a35141466ca42b3b", checked := Try.checked }
namespace Rows
def none {H : Type} : Left H := { results := [], args := [] }

/-- 'mastlaw2.ListPages': WHATEVER THE INPUT: true; the input reads as it did. -/
def listPagesSpec : ChangeSpec := { name := "listPages", fn := fun _ => fun
  | [d1, d2] => { results := [.lit (.bool true)], args := [d1, d2] }
  | _ => none }
def listPagesRow : OpenClaim := { program := "ytkkimcefjelnbaa", sum := "5717c7c7fda4f1270166e2063648c34577d1b4d041ad6619a35141466ca42b3b", func := "masthead/mastlaw2.ListPages", spec := "listPages", apart := false }
def ListPagesSaid : Prop := listPagesRow.holds Try.pinned (OpenSpec.ofChange listPagesSpec)

/-- ITS FALSE NEIGHBOUR: 'it returns false'. Refute it at one input. -/
def listPagesWrong : ChangeSpec := { name := "listPages", fn := fun _ => fun
  | [d1, d2] => { results := [.lit (.bool false)], args := [d1, d2] }
  | _ => none }
def ListPagesWrongFalsely : Prop := listPagesRow.holds Try.pinned (OpenSpec.ofChange listPagesWrong)

/-- 'mastlaw2.ListWindows': WHATEVER THE INPUT: true; the input reads as it did. -/
def listWindowsSpec : ChangeSpec := { name := "listWindows", fn := fun _ => fun
  | [d1, d2, d3] => { results := [.lit (.bool true)], args := [d1, d2, d3] }
  | _ => none }
def listWindowsRow : OpenClaim := { program := "ytkkimcefjelnbaa", sum := "5717c7c7fda4f1270166e2063648c34577d1b4d041ad6619a35141466ca42b3b", func := "masthead/mastlaw2.ListWindows", spec := "listWindows", apart := false }
def ListWindowsSaid : Prop := listWindowsRow.holds Try.pinned (OpenSpec.ofChange listWindowsSpec)

/-- ITS FALSE NEIGHBOUR: 'it returns false'. Refute it at one input. -/
def listWindowsWrong : ChangeSpec := { name := "listWindows", fn := fun _ => fun
  | [d1, d2, d3] => { results := [.lit (.bool false)], args := [d1, d2, d3] }
  | _ => none }
def ListWindowsWrongFalsely : Prop := listWindowsRow.holds Try.pinned (OpenSpec.ofChange listWindowsWrong)

/-- 'mastlaw2.ListNear': WHATEVER THE INPUT: true; the input reads as it did. -/
def listNearSpec : ChangeSpec := { name := "listNear", fn := fun _ => fun
  | [d1, d2] => { results := [.lit (.bool true)], args := [d1, d2] }
  | _ => none }
def listNearRow : OpenClaim := { program := "ytkkimcefjelnbaa", sum := "5717c7c7fda4f1270166e2063648c34577d1b4d041ad6619a35141466ca42b3b", func := "masthead/mastlaw2.ListNear", spec := "listNear", unfollowed := true, recurses := true, apart := false }
def ListNearSaid : Prop := listNearRow.holds Try.pinned (OpenSpec.ofChange listNearSpec)

/-- ITS FALSE NEIGHBOUR: 'it returns false'. Refute it at one input. -/
def listNearWrong : ChangeSpec := { name := "listNear", fn := fun _ => fun
  | [d1, d2] => { results := [.lit (.bool false)], args := [d1, d2] }
  | _ => none }
def ListNearWrongFalsely : Prop := listNearRow.holds Try.pinned (OpenSpec.ofChange listNearWrong)

/-- 'mastlaw2.TermClouds': WHATEVER THE INPUT: true; the input reads as it did. -/
def termCloudsSpec : ChangeSpec := { name := "termClouds", fn := fun _ => fun
  | [d1, d2] => { results := [.lit (.bool true)], args := [d1, d2] }
  | _ => none }
def termCloudsRow : OpenClaim := { program := "ytkkimcefjelnbaa", sum := "5717c7c7fda4f1270166e2063648c34577d1b4d041ad6619a35141466ca42b3b", func := "masthead/mastlaw2.TermClouds", spec := "termClouds", apart := false }
def TermCloudsSaid : Prop := termCloudsRow.holds Try.pinned (OpenSpec.ofChange termCloudsSpec)

/-- ITS FALSE NEIGHBOUR: 'it returns false'. Refute it at one input. -/
def termCloudsWrong : ChangeSpec := { name := "termClouds", fn := fun _ => fun
  | [d1, d2] => { results := [.lit (.bool false)], args := [d1, d2] }
  | _ => none }
def TermCloudsWrongFalsely : Prop := termCloudsRow.holds Try.pinned (OpenSpec.ofChange termCloudsWrong)

/- THE SECOND FORM. 'bulk': how many values and letters a reading holds, each counted each time it is reached (what is shared counts as often as it is met; a slice's spare places count too). A statement '..UptoSaid' is the law's where the arguments, and the package variables that the reading takes, are together of bulk at most 1048576: NARROWER than '..Said'. Prove '..Said' where nothing that the law and all that it calls make is longer than what came in: it says more and counts as full. Else prove '..UptoSaid'. A law counts once. -/
mutual
def uptoBulk {H : Type} : DataW H → Nat
  | .lit (.string bytes) => bytes.length + 1
  | .lit _ => 1
  | .nil => 1
  | .ptr d => uptoBulk d + 1
  | .slice elems spare => uptoBulkAll elems + uptoBulkAll spare + 1
  | .agg parts => uptoBulkAll parts + 1
  | .iface _ d => uptoBulk d + 1
  | .map entries => uptoBulkEntries entries + 1
  | .held _ => 1
def uptoBulkAll {H : Type} : List (DataW H) → Nat
  | [] => 0
  | d :: r => uptoBulk d + uptoBulkAll r
def uptoBulkEntries {H : Type} : List (Lit × DataW H) → Nat
  | [] => 0
  | x :: r => uptoBulkEntry x + uptoBulkEntries r
def uptoBulkEntry {H : Type} : Lit × DataW H → Nat
  | (.string bytes, d) => bytes.length + uptoBulk d + 1
  | (_, d) => uptoBulk d + 1
 end
def uptoSmall : (H : Type) → List (DataW H) → Bool := fun _ ds => decide (uptoBulkAll ds ≤ 1048576)
def OpenSpec.upto (s : _root_.Go.ChangeSpec) : _root_.Go.OpenSpec := { _root_.Go.OpenSpec.ofChange s with cond := some uptoSmall }

/-- 'mastlaw2.ListPages', WHERE WHAT IT READS IS OF BULK AT MOST 1048576: true; the input reads as it did. -/
def listPagesUptoRow : OpenClaim := { program := "ytkkimcefjelnbaa", sum := "5717c7c7fda4f1270166e2063648c34577d1b4d041ad6619a35141466ca42b3b", func := "masthead/mastlaw2.ListPages", spec := "listPages", apart := false, narrowed := true }
def ListPagesUptoSaid : Prop := listPagesUptoRow.holds Try.pinned (OpenSpec.upto listPagesSpec)

/-- 'mastlaw2.ListWindows', WHERE WHAT IT READS IS OF BULK AT MOST 1048576: true; the input reads as it did. -/
def listWindowsUptoRow : OpenClaim := { program := "ytkkimcefjelnbaa", sum := "5717c7c7fda4f1270166e2063648c34577d1b4d041ad6619a35141466ca42b3b", func := "masthead/mastlaw2.ListWindows", spec := "listWindows", apart := false, narrowed := true }
def ListWindowsUptoSaid : Prop := listWindowsUptoRow.holds Try.pinned (OpenSpec.upto listWindowsSpec)

/-- 'mastlaw2.ListNear', WHERE WHAT IT READS IS OF BULK AT MOST 1048576: true; the input reads as it did. -/
def listNearUptoRow : OpenClaim := { program := "ytkkimcefjelnbaa", sum := "5717c7c7fda4f1270166e2063648c34577d1b4d041ad6619a35141466ca42b3b", func := "masthead/mastlaw2.ListNear", spec := "listNear", unfollowed := true, recurses := true, apart := false, narrowed := true }
def ListNearUptoSaid : Prop := listNearUptoRow.holds Try.pinned (OpenSpec.upto listNearSpec)

/-- 'mastlaw2.TermClouds', WHERE WHAT IT READS IS OF BULK AT MOST 1048576: true; the input reads as it did. -/
def termCloudsUptoRow : OpenClaim := { program := "ytkkimcefjelnbaa", sum := "5717c7c7fda4f1270166e2063648c34577d1b4d041ad6619a35141466ca42b3b", func := "masthead/mastlaw2.TermClouds", spec := "termClouds", apart := false, narrowed := true }
def TermCloudsUptoSaid : Prop := termCloudsUptoRow.holds Try.pinned (OpenSpec.upto termCloudsSpec)

end Rows
end Go.Proofs.Ytkkimcefjelnbaa
