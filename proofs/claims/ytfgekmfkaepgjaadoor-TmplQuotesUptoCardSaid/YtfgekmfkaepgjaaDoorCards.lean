/-
  DERIVED. GIVEN WITH THE SEED: THE CARDS: each row of YtfgekmfkaepgjaaDoorRows.lean that lists a variable, with what it lists TIED to the program's text (the seventh form; the later family's looks); each row that meets fmt, with fmt's text TOLD by the authors' own Lean function (tested against real Go, not proved from fmt's source: count such statements apart). THE CARD IS WHAT COUNTS. Prove the row's statement (the work); the ties are given (YtfgekmfkaepgjaaDoorTie.lean); close each card by the builder's one call (the guide's Derived/Test/ToyasCard.lean, 'card_holds'). Laid BY PROGRAM, IN A SANDBOX (cutbox-door.mjs). By AI agents, Wed Nov 11 2026. No macro, syntax, notation, axiom, sorry.
-/
import Derived.Test.YtfgekmfkaepgjaaDoorRows
import GoSem.ClaimSeven
namespace Go.Proofs.YtfgekmfkaepgjaaDoor
namespace Rows

/-- THE TIED CARD OF 'mastlaw1.TmplShows'. -/
def tmplShowsCard : Claim7 := { stood := { row := tmplShowsRow, standIns := [], harness := (true, "4aee878c2c05cc69a2a0f57b65939a838cee9e1a7957fac44669090bc1f78c70"), looks := false }, kinds := [], alts := [], laidByText := true, laidKinds := [.data, .data, .data], laidTests := true, laidLooks := .later }
def TmplShowsCardSaid : Prop := Claim7.holds Tryd.pinned (.plain (OpenSpec.ofChange tmplShowsSpec)) tmplShowsCard

/-- THE TIED CARD OF 'mastlaw1.TmplQuotes'. -/
def tmplQuotesCard : Claim7 := { stood := { row := tmplQuotesRow, standIns := [], harness := (true, "4aee878c2c05cc69a2a0f57b65939a838cee9e1a7957fac44669090bc1f78c70"), looks := false }, kinds := [], alts := [], laidByText := true, laidKinds := [.data, .data, .data], laidTests := true, laidLooks := .later }
def TmplQuotesCardSaid : Prop := Claim7.holds Tryd.pinned (.plain (OpenSpec.ofChange tmplQuotesSpec)) tmplQuotesCard

/-- THE SECOND FORM's CARD OF 'mastlaw1.TmplShows'. -/
def tmplShowsUptoCard : Claim7 := { stood := { row := tmplShowsUptoRow, standIns := [], harness := (true, "4aee878c2c05cc69a2a0f57b65939a838cee9e1a7957fac44669090bc1f78c70"), looks := false }, kinds := [], alts := [], laidByText := true, laidKinds := [.data, .data, .data], laidTests := true, laidLooks := .later }
def TmplShowsUptoCardSaid : Prop := Claim7.holds Tryd.pinned (.plain (OpenSpec.upto tmplShowsSpec)) tmplShowsUptoCard

/-- THE SECOND FORM's CARD OF 'mastlaw1.TmplQuotes'. -/
def tmplQuotesUptoCard : Claim7 := { stood := { row := tmplQuotesUptoRow, standIns := [], harness := (true, "4aee878c2c05cc69a2a0f57b65939a838cee9e1a7957fac44669090bc1f78c70"), looks := false }, kinds := [], alts := [], laidByText := true, laidKinds := [.data, .data, .data], laidTests := true, laidLooks := .later }
def TmplQuotesUptoCardSaid : Prop := Claim7.holds Tryd.pinned (.plain (OpenSpec.upto tmplQuotesSpec)) tmplQuotesUptoCard
end Rows
end Go.Proofs.YtfgekmfkaepgjaaDoor
