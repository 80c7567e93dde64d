/-
  DERIVED. GIVEN WITH THE SEED: THE CARDS: each row of YtohkdckllmmfhaaDoorRows.lean that lists a variable, with what it lists TIED to the program's text (the seventh form; the later family's looks); each row that meets fmt, with fmt's text TOLD by the authors' own Lean function (tested against real Go, not proved from fmt's source: count such statements apart). THE CARD IS WHAT COUNTS. Prove the row's statement (the work); the ties are given (YtohkdckllmmfhaaDoorTie.lean); close each card by the builder's one call (the guide's Derived/Test/ToyasCard.lean, 'card_holds'). Laid BY PROGRAM, IN A SANDBOX (cutbox-door.mjs). By AI agents, Wed Nov 11 2026. No macro, syntax, notation, axiom, sorry.
-/
import Derived.Test.YtohkdckllmmfhaaDoorRows
import GoSem.ClaimSeven
namespace Go.Proofs.YtohkdckllmmfhaaDoor
namespace Rows

/-- THE TIED CARD OF 'mastlaw2.TreeHides'. -/
def treeHidesCard : Claim7 := { stood := { row := treeHidesRow, standIns := [], harness := (true, "81ef248f505720169326e8f6feac80d25f7a00c6fa87c058a7462971da87e806"), looks := false }, kinds := [], alts := [], laidByText := true, laidKinds := [.data, .pinned], laidTests := true, laidLooks := .later }
def TreeHidesCardSaid : Prop := Claim7.holds Tryd.pinned (.plain (OpenSpec.ofChange treeHidesSpec)) treeHidesCard

/-- THE SECOND FORM's CARD OF 'mastlaw2.TreeHides'. -/
def treeHidesUptoCard : Claim7 := { stood := { row := treeHidesUptoRow, standIns := [], harness := (true, "81ef248f505720169326e8f6feac80d25f7a00c6fa87c058a7462971da87e806"), looks := false }, kinds := [], alts := [], laidByText := true, laidKinds := [.data, .pinned], laidTests := true, laidLooks := .later }
def TreeHidesUptoCardSaid : Prop := Claim7.holds Tryd.pinned (.plain (OpenSpec.upto treeHidesSpec)) treeHidesUptoCard
end Rows
end Go.Proofs.YtohkdckllmmfhaaDoor
