/-
  DERIVED. GIVEN WITH THE SEED: THE CARDS: each row of YthlkibadiiiohaaDoorRows.lean that lists a variable, with what it lists TIED to the program's text (the seventh form; the later family's looks); each row that meets fmt, with fmt's text TOLD by the authors' own Lean function (tested against real Go, not proved from fmt's source: count such statements apart). THE CARD IS WHAT COUNTS. Prove the row's statement (the work); the ties are given (YthlkibadiiiohaaDoorTie.lean); close each card by the builder's one call (the guide's Derived/Test/ToyasCard.lean, 'card_holds'). Laid BY PROGRAM, IN A SANDBOX (cutbox-door.mjs). By AI agents, Wed Nov 11 2026. No macro, syntax, notation, axiom, sorry.
-/
import Derived.Test.YthlkibadiiiohaaDoorRows
import GoSem.ClaimSeven
namespace Go.Proofs.YthlkibadiiiohaaDoor
namespace Rows

/-- THE TIED CARD OF 'mastkeep2.AssetRound'. -/
def assetRoundCard : Claim7 := { stood := { row := assetRoundRow, standIns := [], harness := (true, "3099c470226ac9637c9a794749450b03c41b14b2e9e0ec48735c1b66c3d7240b"), looks := true }, kinds := [], alts := [], laidByText := true, laidKinds := [.data, .pinned], laidTests := true, laidLooks := .later }
def AssetRoundCardSaid : Prop := Claim7.holds Tryd.pinned (.plain (OpenSpec.ofChange assetRoundSpec)) assetRoundCard

/-- THE TIED CARD OF 'mastkeep2.ImageRound'. -/
def imageRoundCard : Claim7 := { stood := { row := imageRoundRow, standIns := [], harness := (true, "3099c470226ac9637c9a794749450b03c41b14b2e9e0ec48735c1b66c3d7240b"), looks := true }, kinds := [], alts := [], laidByText := true, laidKinds := [.data, .data, .data, .data, .sentinel, .sentinel, .pinned], laidTests := true, laidLooks := .later }
def ImageRoundCardSaid : Prop := Claim7.holds Tryd.pinned (.plain (OpenSpec.ofChange imageRoundSpec)) imageRoundCard

/-- THE SECOND FORM's CARD OF 'mastkeep2.AssetRound'. -/
def assetRoundUptoCard : Claim7 := { stood := { row := assetRoundUptoRow, standIns := [], harness := (true, "3099c470226ac9637c9a794749450b03c41b14b2e9e0ec48735c1b66c3d7240b"), looks := true }, kinds := [], alts := [], laidByText := true, laidKinds := [.data, .pinned], laidTests := true, laidLooks := .later }
def AssetRoundUptoCardSaid : Prop := Claim7.holds Tryd.pinned (.plain (OpenSpec.upto assetRoundSpec)) assetRoundUptoCard

/-- THE SECOND FORM's CARD OF 'mastkeep2.ImageRound'. -/
def imageRoundUptoCard : Claim7 := { stood := { row := imageRoundUptoRow, standIns := [], harness := (true, "3099c470226ac9637c9a794749450b03c41b14b2e9e0ec48735c1b66c3d7240b"), looks := true }, kinds := [], alts := [], laidByText := true, laidKinds := [.data, .data, .data, .data, .sentinel, .sentinel, .pinned], laidTests := true, laidLooks := .later }
def ImageRoundUptoCardSaid : Prop := Claim7.holds Tryd.pinned (.plain (OpenSpec.upto imageRoundSpec)) imageRoundUptoCard
end Rows
end Go.Proofs.YthlkibadiiiohaaDoor
