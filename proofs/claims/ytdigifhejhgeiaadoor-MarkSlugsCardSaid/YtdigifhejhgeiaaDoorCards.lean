/-
  DERIVED. GIVEN WITH THE SEED: THE CARDS: each row of YtdigifhejhgeiaaDoorRows.lean that lists a variable, with what it lists TIED to the program's text (the seventh form; the later family's looks); each row that meets fmt, with fmt's text TOLD by the authors' own Lean function (tested against real Go, not proved from fmt's source: count such statements apart). THE CARD IS WHAT COUNTS. Prove the row's statement (the work); the ties are given (YtdigifhejhgeiaaDoorTie.lean); close each card by the builder's one call (the guide's Derived/Test/ToyasCard.lean, 'card_holds'). Laid BY PROGRAM, IN A SANDBOX (cutbox-door.mjs). By AI agents, Wed Nov 11 2026. No macro, syntax, notation, axiom, sorry.
-/
import Derived.Test.YtdigifhejhgeiaaDoorRows
import GoSem.ClaimSeven
namespace Go.Proofs.YtdigifhejhgeiaaDoor
namespace Rows

/-- THE TIED CARD OF 'mastlaw1.MarkSlugs'. -/
def markSlugsCard : Claim7 := { stood := { row := markSlugsRow, standIns := [], harness := (true, "4c4b549fcf9427044abb5730ab850ec40cdb053830ec5fb8c81cf22865cc27e2"), looks := false }, kinds := [], alts := [], laidByText := true, laidKinds := [.data, .pinned], laidTests := true, laidLooks := .later }
def MarkSlugsCardSaid : Prop := Claim7.holds Tryd.pinned (.plain (OpenSpec.ofChange markSlugsSpec)) markSlugsCard

/-- THE SECOND FORM's CARD OF 'mastlaw1.MarkSlugs'. -/
def markSlugsUptoCard : Claim7 := { stood := { row := markSlugsUptoRow, standIns := [], harness := (true, "4c4b549fcf9427044abb5730ab850ec40cdb053830ec5fb8c81cf22865cc27e2"), looks := false }, kinds := [], alts := [], laidByText := true, laidKinds := [.data, .pinned], laidTests := true, laidLooks := .later }
def MarkSlugsUptoCardSaid : Prop := Claim7.holds Tryd.pinned (.plain (OpenSpec.upto markSlugsSpec)) markSlugsUptoCard
end Rows
end Go.Proofs.YtdigifhejhgeiaaDoor
