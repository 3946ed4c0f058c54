/-
  DERIVED. GIVEN WITH THE SEED: THE CARDS: each row of YtgjeppphbbnilaaGreatDoorRows.lean that lists a variable, with what it lists TIED to the program's text (the seventh form; the later family's looks); each row that meets fmt, with fmt's text TOLD by the authors' own Lean function (tested against real Go, not proved from fmt's source: count such statements apart). THE CARD IS WHAT COUNTS. Prove the row's statement (the work); the ties are given (YtgjeppphbbnilaaGreatDoorTie.lean); close each card by the builder's one call (the guide's Derived/Test/ToyasCard.lean, 'card_holds'). Laid BY PROGRAM, IN A SANDBOX (cutbox-door.mjs). By AI agents, Wed Nov 11 2026. No macro, syntax, notation, axiom, sorry.
-/
import Derived.Test.YtgjeppphbbnilaaGreatDoorRows
import GoSem.ClaimSeven
namespace Go.Proofs.YtgjeppphbbnilaaGreatDoor
namespace Rows

/-- THE TIED CARD OF 'stratalaw02.GlobOut'. -/
def globOutCard : Claim7 := { stood := { row := globOutRow, standIns := [], harness := (true, "b1edba7771a0690bce5400545a4d6990317cb553f6bed44cd109063600810a9a"), looks := true }, kinds := [], alts := [], laidByText := true, laidKinds := [.data, .handle, .pinned], laidTests := true, laidLooks := .later }
def GlobOutCardSaid : Prop := Claim7.holds Tryz.pinned (.plain (OpenSpec.ofChange globOutSpec)) globOutCard

/-- THE SECOND FORM's CARD OF 'stratalaw02.GlobOut'. -/
def globOutUptoCard : Claim7 := { stood := { row := globOutUptoRow, standIns := [], harness := (true, "b1edba7771a0690bce5400545a4d6990317cb553f6bed44cd109063600810a9a"), looks := true }, kinds := [], alts := [], laidByText := true, laidKinds := [.data, .handle, .pinned], laidTests := true, laidLooks := .later }
def GlobOutUptoCardSaid : Prop := Claim7.holds Tryz.pinned (.plain (OpenSpec.upto globOutSpec)) globOutUptoCard
end Rows
end Go.Proofs.YtgjeppphbbnilaaGreatDoor
