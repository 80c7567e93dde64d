/-
  DERIVED. GIVEN WITH THE SEED: THE CARDS: each row of YtfmmpfoecjehiaaDoorRows.lean that lists a variable, with what it lists TIED to the program's text (the seventh form; the later family's looks); each row that meets fmt, with fmt's text TOLD by the authors' own Lean function (tested against real Go, not proved from fmt's source: count such statements apart). THE CARD IS WHAT COUNTS. Prove the row's statement (the work); the ties are given (YtfmmpfoecjehiaaDoorTie.lean); close each card by the builder's one call (the guide's Derived/Test/ToyasCard.lean, 'card_holds'). Laid BY PROGRAM, IN A SANDBOX (cutbox-door.mjs). By AI agents, Wed Nov 11 2026. No macro, syntax, notation, axiom, sorry.
-/
import Derived.Test.YtfmmpfoecjehiaaDoorRows
import GoSem.ClaimSeven
namespace Go.Proofs.YtfmmpfoecjehiaaDoor
namespace Rows

/-- THE TIED CARD OF 'mastlaw1.PageResolves'. -/
def pageResolvesCard : Claim7 := { stood := { row := pageResolvesRow, standIns := [], harness := (true, "0b90bccd9856bd974a2d1d602a87bd8f89db6d2ef385f20466f6204d273400ac"), looks := false }, kinds := [], alts := [], laidByText := true, laidKinds := [.data, .pinned], laidTests := true, laidLooks := .later }
def PageResolvesCardSaid : Prop := Claim7.holds Tryd.pinned (.plain (OpenSpec.ofChange pageResolvesSpec)) pageResolvesCard

/-- THE TIED CARD OF 'mastlaw1.PageTargets'. -/
def pageTargetsCard : Claim7 := { stood := { row := pageTargetsRow, standIns := [], harness := (true, "0b90bccd9856bd974a2d1d602a87bd8f89db6d2ef385f20466f6204d273400ac"), looks := false }, kinds := [], alts := [], laidByText := true, laidKinds := [.data, .pinned], laidTests := true, laidLooks := .later }
def PageTargetsCardSaid : Prop := Claim7.holds Tryd.pinned (.plain (OpenSpec.ofChange pageTargetsSpec)) pageTargetsCard

/-- THE TIED CARD OF 'mastlaw1.PageSections'. -/
def pageSectionsCard : Claim7 := { stood := { row := pageSectionsRow, standIns := [], harness := (true, "0b90bccd9856bd974a2d1d602a87bd8f89db6d2ef385f20466f6204d273400ac"), looks := false }, kinds := [], alts := [], laidByText := true, laidKinds := [.data, .data, .data], laidTests := true, laidLooks := .later }
def PageSectionsCardSaid : Prop := Claim7.holds Tryd.pinned (.plain (OpenSpec.ofChange pageSectionsSpec)) pageSectionsCard

/-- THE SECOND FORM's CARD OF 'mastlaw1.PageResolves'. -/
def pageResolvesUptoCard : Claim7 := { stood := { row := pageResolvesUptoRow, standIns := [], harness := (true, "0b90bccd9856bd974a2d1d602a87bd8f89db6d2ef385f20466f6204d273400ac"), looks := false }, kinds := [], alts := [], laidByText := true, laidKinds := [.data, .pinned], laidTests := true, laidLooks := .later }
def PageResolvesUptoCardSaid : Prop := Claim7.holds Tryd.pinned (.plain (OpenSpec.upto pageResolvesSpec)) pageResolvesUptoCard

/-- THE SECOND FORM's CARD OF 'mastlaw1.PageTargets'. -/
def pageTargetsUptoCard : Claim7 := { stood := { row := pageTargetsUptoRow, standIns := [], harness := (true, "0b90bccd9856bd974a2d1d602a87bd8f89db6d2ef385f20466f6204d273400ac"), looks := false }, kinds := [], alts := [], laidByText := true, laidKinds := [.data, .pinned], laidTests := true, laidLooks := .later }
def PageTargetsUptoCardSaid : Prop := Claim7.holds Tryd.pinned (.plain (OpenSpec.upto pageTargetsSpec)) pageTargetsUptoCard

/-- THE SECOND FORM's CARD OF 'mastlaw1.PageSections'. -/
def pageSectionsUptoCard : Claim7 := { stood := { row := pageSectionsUptoRow, standIns := [], harness := (true, "0b90bccd9856bd974a2d1d602a87bd8f89db6d2ef385f20466f6204d273400ac"), looks := false }, kinds := [], alts := [], laidByText := true, laidKinds := [.data, .data, .data], laidTests := true, laidLooks := .later }
def PageSectionsUptoCardSaid : Prop := Claim7.holds Tryd.pinned (.plain (OpenSpec.upto pageSectionsSpec)) pageSectionsUptoCard
end Rows
end Go.Proofs.YtfmmpfoecjehiaaDoor
