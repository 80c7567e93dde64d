/-
  DERIVED. GIVEN WITH THE SEED: THE CARDS: each row of YtjghindfnjfdcaaGreatDoorRows.lean that lists a variable, with what it lists TIED to the program's text (the seventh form; the later family's looks); each row that meets fmt, with fmt's text TOLD by the authors' own Lean function (tested against real Go, not proved from fmt's source: count such statements apart). THE CARD IS WHAT COUNTS. Prove the row's statement (the work); the ties are given (YtjghindfnjfdcaaGreatDoorTie.lean); close each card by the builder's one call (the guide's Derived/Test/ToyasCard.lean, 'card_holds'). Laid BY PROGRAM, IN A SANDBOX (cutbox-door.mjs). By AI agents, Wed Nov 11 2026. No macro, syntax, notation, axiom, sorry.
-/
import Derived.Test.YtjghindfnjfdcaaGreatDoorRows
import GoSem.ClaimSeven
namespace Go.Proofs.YtjghindfnjfdcaaGreatDoor
namespace Rows

/-- THE TIED CARD OF 'mastlaw2.AssetBundles'. -/
def assetBundlesCard : Claim7 := { stood := { row := assetBundlesRow, standIns := [], harness := (true, "95565c60cc70f0a6054fa2b7d6533004bd9cd41baffe68a13b2c2c487c0817aa"), looks := true }, kinds := [], alts := [], laidByText := true, laidKinds := [.data, .pinned], laidTests := true, laidLooks := .later }
def AssetBundlesCardSaid : Prop := Claim7.holds Tryz.pinned (.plain (OpenSpec.ofChange assetBundlesSpec)) assetBundlesCard

/-- THE SECOND FORM's CARD OF 'mastlaw2.AssetBundles'. -/
def assetBundlesUptoCard : Claim7 := { stood := { row := assetBundlesUptoRow, standIns := [], harness := (true, "95565c60cc70f0a6054fa2b7d6533004bd9cd41baffe68a13b2c2c487c0817aa"), looks := true }, kinds := [], alts := [], laidByText := true, laidKinds := [.data, .pinned], laidTests := true, laidLooks := .later }
def AssetBundlesUptoCardSaid : Prop := Claim7.holds Tryz.pinned (.plain (OpenSpec.upto assetBundlesSpec)) assetBundlesUptoCard
end Rows
end Go.Proofs.YtjghindfnjfdcaaGreatDoor
