/-
  DERIVED. GIVEN WITH THE SEED: THE CARDS: each row of YthmggjgfbhicgaaGreatDoorRows.lean that lists a variable, with what it lists TIED to the program's text (the seventh form; the later family's looks); each row that meets fmt, with fmt's text TOLD by the authors' own Lean function (tested against real Go, not proved from fmt's source: count such statements apart). THE CARD IS WHAT COUNTS. Prove the row's statement (the work); the ties are given (YthmggjgfbhicgaaGreatDoorTie.lean); close each card by the builder's one call (the guide's Derived/Test/ToyasCard.lean, 'card_holds'). Laid BY PROGRAM, IN A SANDBOX (cutbox-door.mjs). By AI agents, Wed Nov 11 2026. No macro, syntax, notation, axiom, sorry.
-/
import Derived.Test.YthmggjgfbhicgaaGreatDoorRows
import GoSem.ClaimSeven
namespace Go.Proofs.YthmggjgfbhicgaaGreatDoor
namespace Rows

/-- THE TIED CARD OF 'mastkeep2.ConfOrders'. -/
def confOrdersCard : Claim7 := { stood := { row := confOrdersRow, standIns := [], harness := (true, "70d98ccf9217717c23c0d266da79ddc0ff18c6b9da79c73a8e0ef0226f209ccb"), looks := true }, kinds := [], alts := [], laidByText := true, laidKinds := [.data, .data, .data, .sentinel, .sentinel], laidTests := true, laidLooks := .later }
def ConfOrdersCardSaid : Prop := Claim7.holds Tryz.pinned (.plain (OpenSpec.ofChange confOrdersSpec)) confOrdersCard

/-- THE TIED CARD OF 'mastkeep2.DayRound'. -/
def dayRoundCard : Claim7 := { stood := { row := dayRoundRow, standIns := [], harness := (true, "70d98ccf9217717c23c0d266da79ddc0ff18c6b9da79c73a8e0ef0226f209ccb"), looks := true }, kinds := [], alts := [], laidByText := true, laidKinds := [.data, .data, .data, .sentinel, .sentinel], laidTests := true, laidLooks := .later }
def DayRoundCardSaid : Prop := Claim7.holds Tryz.pinned (.plain (OpenSpec.ofChange dayRoundSpec)) dayRoundCard

/-- THE SECOND FORM's CARD OF 'mastkeep2.ConfOrders'. -/
def confOrdersUptoCard : Claim7 := { stood := { row := confOrdersUptoRow, standIns := [], harness := (true, "70d98ccf9217717c23c0d266da79ddc0ff18c6b9da79c73a8e0ef0226f209ccb"), looks := true }, kinds := [], alts := [], laidByText := true, laidKinds := [.data, .data, .data, .sentinel, .sentinel], laidTests := true, laidLooks := .later }
def ConfOrdersUptoCardSaid : Prop := Claim7.holds Tryz.pinned (.plain (OpenSpec.upto confOrdersSpec)) confOrdersUptoCard

/-- THE SECOND FORM's CARD OF 'mastkeep2.DayRound'. -/
def dayRoundUptoCard : Claim7 := { stood := { row := dayRoundUptoRow, standIns := [], harness := (true, "70d98ccf9217717c23c0d266da79ddc0ff18c6b9da79c73a8e0ef0226f209ccb"), looks := true }, kinds := [], alts := [], laidByText := true, laidKinds := [.data, .data, .data, .sentinel, .sentinel], laidTests := true, laidLooks := .later }
def DayRoundUptoCardSaid : Prop := Claim7.holds Tryz.pinned (.plain (OpenSpec.upto dayRoundSpec)) dayRoundUptoCard
end Rows
end Go.Proofs.YthmggjgfbhicgaaGreatDoor
