/-
  DERIVED. GIVEN WITH THE SEED: THE CARDS: each row of YtekgpimlanaokaaDoorRows.lean that lists a variable, with what it lists TIED to the program's text (the seventh form; the later family's looks); each row that meets fmt, with fmt's text TOLD by the authors' own Lean function (tested against real Go, not proved from fmt's source: count such statements apart). THE CARD IS WHAT COUNTS. Prove the row's statement (the work); the ties are given (YtekgpimlanaokaaDoorTie.lean); close each card by the builder's one call (the guide's Derived/Test/ToyasCard.lean, 'card_holds'). Laid BY PROGRAM, IN A SANDBOX (cutbox-door.mjs). By AI agents, Wed Nov 11 2026. No macro, syntax, notation, axiom, sorry.
-/
import Derived.Test.YtekgpimlanaokaaDoorRows
import GoSem.ClaimSeven
namespace Go.Proofs.YtekgpimlanaokaaDoor
namespace Rows

/-- THE TIED CARD OF 'mastlaw1.PageResolves'. -/
def pageResolvesCard : Claim7 := { stood := { row := pageResolvesRow, standIns := [], harness := (true, "4fb8538e3354f595e9d4c12be839beb13c298119b25e2a5a23c32ed925869072"), looks := false }, kinds := [], alts := [], laidByText := true, laidKinds := [.data, .pinned], laidTests := true, laidLooks := .later }
def PageResolvesCardSaid : Prop := Claim7.holds Tryd.pinned (.plain (OpenSpec.ofChange pageResolvesSpec)) pageResolvesCard

/-- THE TIED CARD OF 'mastlaw1.PageTargets'. -/
def pageTargetsCard : Claim7 := { stood := { row := pageTargetsRow, standIns := [], harness := (true, "4fb8538e3354f595e9d4c12be839beb13c298119b25e2a5a23c32ed925869072"), looks := false }, kinds := [], alts := [], laidByText := true, laidKinds := [.data, .pinned], laidTests := true, laidLooks := .later }
def PageTargetsCardSaid : Prop := Claim7.holds Tryd.pinned (.plain (OpenSpec.ofChange pageTargetsSpec)) pageTargetsCard

/-- THE SECOND FORM's CARD OF 'mastlaw1.PageResolves'. -/
def pageResolvesUptoCard : Claim7 := { stood := { row := pageResolvesUptoRow, standIns := [], harness := (true, "4fb8538e3354f595e9d4c12be839beb13c298119b25e2a5a23c32ed925869072"), looks := false }, kinds := [], alts := [], laidByText := true, laidKinds := [.data, .pinned], laidTests := true, laidLooks := .later }
def PageResolvesUptoCardSaid : Prop := Claim7.holds Tryd.pinned (.plain (OpenSpec.upto pageResolvesSpec)) pageResolvesUptoCard

/-- THE SECOND FORM's CARD OF 'mastlaw1.PageTargets'. -/
def pageTargetsUptoCard : Claim7 := { stood := { row := pageTargetsUptoRow, standIns := [], harness := (true, "4fb8538e3354f595e9d4c12be839beb13c298119b25e2a5a23c32ed925869072"), looks := false }, kinds := [], alts := [], laidByText := true, laidKinds := [.data, .pinned], laidTests := true, laidLooks := .later }
def PageTargetsUptoCardSaid : Prop := Claim7.holds Tryd.pinned (.plain (OpenSpec.upto pageTargetsSpec)) pageTargetsUptoCard
end Rows
end Go.Proofs.YtekgpimlanaokaaDoor
