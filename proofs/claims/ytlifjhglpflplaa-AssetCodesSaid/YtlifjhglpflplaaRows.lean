/-
  NARROWER THAN 'FOR EVERY INPUT', by the rows' own cells (each row's printed sentence says how): RuleForms: loops.
  DERIVED. THE GIVEN ROWS OF THIS SEAT. 3 by the template 'for every input the law returns true; each argument reads behind the call as it read before'; 0 by the template 'total and deterministic' (their statements: YtlifjhglpflplaaTotals.lean).
  GIVEN WITH THE SEED: the statements are not yours to turn. If you find one false, say at which input.
  Laid BY PROGRAM, IN A SANDBOX (cutbox-rows.mjs): the forced cells as the released guide's own fill.sh prints them over the translation 6565c1b569392a74… (all of the seat's roots in one cut). By AI agents, Wed Nov 11 2026. No macro, syntax, notation, axiom, sorry.
-/
import Derived.Test.YtlifjhglpflplaaChecked
import GoSem.Claim
import GoSem.ClaimJoined
import GoSem.ClaimMapViews
import Derived.JoinedTies
import Derived.KernelRfl
namespace Go.Proofs.Ytlifjhglpflplaa
/- THE CELL 'sum', in the pinned program and in every row, IS THE sha256 OF THE DUMP (.gsa) THAT YtlifjhglpflplaaProg.lean LOADS. Nothing in Lean hashes anything: it is a label: what it is worth is what the hold of that sum in a sandbox is worth. -/
noncomputable def Try.pinned : Pinned := { name := "ytlifjhglpflplaa", sum := "6565c1b569392a74ca706b862fcf56f2c530aa25c98eadebc4aed08c17db5dab", checked := Try.checked }
namespace Rows
def none {H : Type} : Left H := { results := [], args := [] }

/-- 'mastlaw2.AssetCodes': WHATEVER THE INPUT: true; the input reads as it did. -/
def assetCodesSpec : ChangeSpec := { name := "assetCodes", fn := fun _ => fun
  | [d] => { results := [.lit (.bool true)], args := [d] }
  | _ => none }
def assetCodesRow : OpenClaim := { program := "ytlifjhglpflplaa", sum := "6565c1b569392a74ca706b862fcf56f2c530aa25c98eadebc4aed08c17db5dab", func := "masthead/mastlaw2.AssetCodes", spec := "assetCodes", inPlace := ["internal/bytealg.IndexByteString"], apart := false }
def AssetCodesSaid : Prop := assetCodesRow.holds Try.pinned (OpenSpec.ofChange assetCodesSpec)

/-- ITS FALSE NEIGHBOUR: 'it returns false'. Refute it at one input. -/
def assetCodesWrong : ChangeSpec := { name := "assetCodes", fn := fun _ => fun
  | [d] => { results := [.lit (.bool false)], args := [d] }
  | _ => none }
def AssetCodesWrongFalsely : Prop := assetCodesRow.holds Try.pinned (OpenSpec.ofChange assetCodesWrong)

/-- 'mastlaw2.ImageRenders': WHATEVER THE INPUT: true; the input reads as it did. -/
def imageRendersSpec : ChangeSpec := { name := "imageRenders", fn := fun _ => fun
  | [d1, d2] => { results := [.lit (.bool true)], args := [d1, d2] }
  | _ => none }
def imageRendersRow : OpenClaim := { program := "ytlifjhglpflplaa", sum := "6565c1b569392a74ca706b862fcf56f2c530aa25c98eadebc4aed08c17db5dab", func := "masthead/mastlaw2.ImageRenders", spec := "imageRenders", unfollowed := true, recurses := true, apart := false }
def ImageRendersSaid : Prop := imageRendersRow.holds Try.pinned (OpenSpec.ofChange imageRendersSpec)

/-- ITS FALSE NEIGHBOUR: 'it returns false'. Refute it at one input. -/
def imageRendersWrong : ChangeSpec := { name := "imageRenders", fn := fun _ => fun
  | [d1, d2] => { results := [.lit (.bool false)], args := [d1, d2] }
  | _ => none }
def ImageRendersWrongFalsely : Prop := imageRendersRow.holds Try.pinned (OpenSpec.ofChange imageRendersWrong)

/-- 'mastlaw2.RuleForms': WHATEVER THE INPUT: true; the input reads as it did. -/
def ruleFormsSpec : ChangeSpec := { name := "ruleForms", fn := fun _ => fun
  | [d1, d2] => { results := [.lit (.bool true)], args := [d1, d2] }
  | _ => none }
def ruleFormsRow : OpenClaim := { program := "ytlifjhglpflplaa", sum := "6565c1b569392a74ca706b862fcf56f2c530aa25c98eadebc4aed08c17db5dab", func := "masthead/mastlaw2.RuleForms", spec := "ruleForms", unfollowed := true, recurses := true, loops := true, apart := false }
def RuleFormsSaid : Prop := ruleFormsRow.holds Try.pinned (OpenSpec.ofChange ruleFormsSpec)

/-- ITS FALSE NEIGHBOUR: 'it returns false'. Refute it at one input. -/
def ruleFormsWrong : ChangeSpec := { name := "ruleForms", fn := fun _ => fun
  | [d1, d2] => { results := [.lit (.bool false)], args := [d1, d2] }
  | _ => none }
def RuleFormsWrongFalsely : Prop := ruleFormsRow.holds Try.pinned (OpenSpec.ofChange ruleFormsWrong)

/- THE SECOND FORM. 'bulk': how many values and letters a reading holds, each counted each time it is reached (what is shared counts as often as it is met; a slice's spare places count too). A statement '..UptoSaid' is the law's where the arguments, and the package variables that the reading takes, are together of bulk at most 1048576: NARROWER than '..Said'. Prove '..Said' where nothing that the law and all that it calls make is longer than what came in: it says more and counts as full. Else prove '..UptoSaid'. A law counts once. -/
mutual
def uptoBulk {H : Type} : DataW H → Nat
  | .lit (.string bytes) => bytes.length + 1
  | .lit _ => 1
  | .nil => 1
  | .ptr d => uptoBulk d + 1
  | .slice elems spare => uptoBulkAll elems + uptoBulkAll spare + 1
  | .agg parts => uptoBulkAll parts + 1
  | .iface _ d => uptoBulk d + 1
  | .map entries => uptoBulkEntries entries + 1
  | .held _ => 1
def uptoBulkAll {H : Type} : List (DataW H) → Nat
  | [] => 0
  | d :: r => uptoBulk d + uptoBulkAll r
def uptoBulkEntries {H : Type} : List (Lit × DataW H) → Nat
  | [] => 0
  | x :: r => uptoBulkEntry x + uptoBulkEntries r
def uptoBulkEntry {H : Type} : Lit × DataW H → Nat
  | (.string bytes, d) => bytes.length + uptoBulk d + 1
  | (_, d) => uptoBulk d + 1
 end
def uptoSmall : (H : Type) → List (DataW H) → Bool := fun _ ds => decide (uptoBulkAll ds ≤ 1048576)
def OpenSpec.upto (s : _root_.Go.ChangeSpec) : _root_.Go.OpenSpec := { _root_.Go.OpenSpec.ofChange s with cond := some uptoSmall }

/-- 'mastlaw2.AssetCodes', WHERE WHAT IT READS IS OF BULK AT MOST 1048576: true; the input reads as it did. -/
def assetCodesUptoRow : OpenClaim := { program := "ytlifjhglpflplaa", sum := "6565c1b569392a74ca706b862fcf56f2c530aa25c98eadebc4aed08c17db5dab", func := "masthead/mastlaw2.AssetCodes", spec := "assetCodes", inPlace := ["internal/bytealg.IndexByteString"], apart := false, narrowed := true }
def AssetCodesUptoSaid : Prop := assetCodesUptoRow.holds Try.pinned (OpenSpec.upto assetCodesSpec)

/-- 'mastlaw2.ImageRenders', WHERE WHAT IT READS IS OF BULK AT MOST 1048576: true; the input reads as it did. -/
def imageRendersUptoRow : OpenClaim := { program := "ytlifjhglpflplaa", sum := "6565c1b569392a74ca706b862fcf56f2c530aa25c98eadebc4aed08c17db5dab", func := "masthead/mastlaw2.ImageRenders", spec := "imageRenders", unfollowed := true, recurses := true, apart := false, narrowed := true }
def ImageRendersUptoSaid : Prop := imageRendersUptoRow.holds Try.pinned (OpenSpec.upto imageRendersSpec)

/-- 'mastlaw2.RuleForms', WHERE WHAT IT READS IS OF BULK AT MOST 1048576: true; the input reads as it did. -/
def ruleFormsUptoRow : OpenClaim := { program := "ytlifjhglpflplaa", sum := "6565c1b569392a74ca706b862fcf56f2c530aa25c98eadebc4aed08c17db5dab", func := "masthead/mastlaw2.RuleForms", spec := "ruleForms", unfollowed := true, recurses := true, loops := true, apart := false, narrowed := true }
def RuleFormsUptoSaid : Prop := ruleFormsUptoRow.holds Try.pinned (OpenSpec.upto ruleFormsSpec)

end Rows
end Go.Proofs.Ytlifjhglpflplaa
