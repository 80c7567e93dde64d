/-
  DERIVED. GIVEN WITH THE SEED: THE CARDS: each row of YtohkdckllmmfhaaGreatDoorRows.lean that lists a variable, with what it lists TIED to the program's text (the seventh form; the later family's looks); each row that meets fmt, with fmt's text TOLD by the authors' own Lean function (tested against real Go, not proved from fmt's source: count such statements apart). THE CARD IS WHAT COUNTS. Prove the row's statement (the work); the ties are given (YtohkdckllmmfhaaGreatDoorTie.lean); close each card by the builder's one call (the guide's Derived/Test/ToyasCard.lean, 'card_holds'). Laid BY PROGRAM, IN A SANDBOX (cutbox-door.mjs). By AI agents, Wed Nov 11 2026. No macro, syntax, notation, axiom, sorry.
-/
import Derived.Test.YtohkdckllmmfhaaGreatDoorRows
import GoSem.ClaimSeven
namespace Go.Proofs.YtohkdckllmmfhaaGreatDoor
namespace Rows

/-- THE TIED CARD OF 'mastlaw2.ConfGets'. -/
def confGetsCard : Claim7 := { stood := { row := confGetsRow, standIns := [], harness := (true, "8e338611eabcceb4fd220276ab121b4f73a05d439e53cfc85ca30c26d9a47bf8"), looks := true }, kinds := [], alts := [], laidByText := true, laidKinds := [.data, .data, .data, .data, .sentinel, .sentinel, .pinned], laidTests := true, laidLooks := .later }
def ConfGetsCardSaid : Prop := Claim7.holds Tryz.pinned (.plain (OpenSpec.ofChange confGetsSpec)) confGetsCard

/-- THE TIED CARD OF 'mastlaw2.ConfRoutes'. -/
def confRoutesCard : Claim7 := { stood := { row := confRoutesRow, standIns := [], harness := (true, "8e338611eabcceb4fd220276ab121b4f73a05d439e53cfc85ca30c26d9a47bf8"), looks := true }, kinds := [], alts := [], laidByText := true, laidKinds := [.data, .data, .data, .data, .pinned], laidTests := true, laidLooks := .later }
def ConfRoutesCardSaid : Prop := Claim7.holds Tryz.pinned (.plain (OpenSpec.ofChange confRoutesSpec)) confRoutesCard

/-- THE TIED CARD OF 'mastlaw2.ConfRemoves'. -/
def confRemovesCard : Claim7 := { stood := { row := confRemovesRow, standIns := [], harness := (true, "8e338611eabcceb4fd220276ab121b4f73a05d439e53cfc85ca30c26d9a47bf8"), looks := true }, kinds := [], alts := [], laidByText := true, laidKinds := [.data, .data, .data, .data, .sentinel, .sentinel, .pinned], laidTests := true, laidLooks := .later }
def ConfRemovesCardSaid : Prop := Claim7.holds Tryz.pinned (.plain (OpenSpec.ofChange confRemovesSpec)) confRemovesCard

/-- THE TIED CARD OF 'mastlaw2.ConfSets'. -/
def confSetsCard : Claim7 := { stood := { row := confSetsRow, standIns := [], harness := (true, "8e338611eabcceb4fd220276ab121b4f73a05d439e53cfc85ca30c26d9a47bf8"), looks := true }, kinds := [], alts := [], laidByText := true, laidKinds := [.data, .data, .data, .data, .sentinel, .sentinel, .pinned], laidTests := true, laidLooks := .later }
def ConfSetsCardSaid : Prop := Claim7.holds Tryz.pinned (.plain (OpenSpec.ofChange confSetsSpec)) confSetsCard

/-- THE SECOND FORM's CARD OF 'mastlaw2.ConfGets'. -/
def confGetsUptoCard : Claim7 := { stood := { row := confGetsUptoRow, standIns := [], harness := (true, "8e338611eabcceb4fd220276ab121b4f73a05d439e53cfc85ca30c26d9a47bf8"), looks := true }, kinds := [], alts := [], laidByText := true, laidKinds := [.data, .data, .data, .data, .sentinel, .sentinel, .pinned], laidTests := true, laidLooks := .later }
def ConfGetsUptoCardSaid : Prop := Claim7.holds Tryz.pinned (.plain (OpenSpec.upto confGetsSpec)) confGetsUptoCard

/-- THE SECOND FORM's CARD OF 'mastlaw2.ConfRoutes'. -/
def confRoutesUptoCard : Claim7 := { stood := { row := confRoutesUptoRow, standIns := [], harness := (true, "8e338611eabcceb4fd220276ab121b4f73a05d439e53cfc85ca30c26d9a47bf8"), looks := true }, kinds := [], alts := [], laidByText := true, laidKinds := [.data, .data, .data, .data, .pinned], laidTests := true, laidLooks := .later }
def ConfRoutesUptoCardSaid : Prop := Claim7.holds Tryz.pinned (.plain (OpenSpec.upto confRoutesSpec)) confRoutesUptoCard

/-- THE SECOND FORM's CARD OF 'mastlaw2.ConfRemoves'. -/
def confRemovesUptoCard : Claim7 := { stood := { row := confRemovesUptoRow, standIns := [], harness := (true, "8e338611eabcceb4fd220276ab121b4f73a05d439e53cfc85ca30c26d9a47bf8"), looks := true }, kinds := [], alts := [], laidByText := true, laidKinds := [.data, .data, .data, .data, .sentinel, .sentinel, .pinned], laidTests := true, laidLooks := .later }
def ConfRemovesUptoCardSaid : Prop := Claim7.holds Tryz.pinned (.plain (OpenSpec.upto confRemovesSpec)) confRemovesUptoCard

/-- THE SECOND FORM's CARD OF 'mastlaw2.ConfSets'. -/
def confSetsUptoCard : Claim7 := { stood := { row := confSetsUptoRow, standIns := [], harness := (true, "8e338611eabcceb4fd220276ab121b4f73a05d439e53cfc85ca30c26d9a47bf8"), looks := true }, kinds := [], alts := [], laidByText := true, laidKinds := [.data, .data, .data, .data, .sentinel, .sentinel, .pinned], laidTests := true, laidLooks := .later }
def ConfSetsUptoCardSaid : Prop := Claim7.holds Tryz.pinned (.plain (OpenSpec.upto confSetsSpec)) confSetsUptoCard
end Rows
end Go.Proofs.YtohkdckllmmfhaaGreatDoor
