/-
  DERIVED. GIVEN WITH THE SEED: THE CARDS: each row of YtjmekcakiacdfabGreatDoorRows.lean that lists a variable, with what it lists TIED to the program's text (the seventh form; the later family's looks); each row that meets fmt, with fmt's text TOLD by the authors' own Lean function (tested against real Go, not proved from fmt's source: count such statements apart). THE CARD IS WHAT COUNTS. Prove the row's statement (the work); the ties are given (YtjmekcakiacdfabGreatDoorTie.lean); close each card by the builder's one call (the guide's Derived/Test/ToyasCard.lean, 'card_holds'). Laid BY PROGRAM, IN A SANDBOX (cutbox-door.mjs). By AI agents, Wed Nov 11 2026. No macro, syntax, notation, axiom, sorry.
-/
import Derived.Test.YtjmekcakiacdfabGreatDoorRows
import GoSem.ClaimSeven
namespace Go.Proofs.YtjmekcakiacdfabGreatDoor
namespace Rows

/-- THE TIED CARD OF 'stratalaw15.ExpandKnown'. -/
def expandKnownCard : Claim7 := { stood := { row := expandKnownRow, standIns := [], harness := (true, "d361b72651c51f00e00bd66656b951f8275aa7b490e7d4f893b1ceb2d3d7c471"), looks := true }, kinds := [], alts := [], laidByText := true, laidKinds := [.handle], laidTests := true, laidLooks := .later }
def ExpandKnownCardSaid : Prop := Claim7.holds Tryz.pinned (.plain (OpenSpec.ofChange expandKnownSpec)) expandKnownCard

/-- THE SECOND FORM's CARD OF 'stratalaw15.ExpandKnown'. -/
def expandKnownUptoCard : Claim7 := { stood := { row := expandKnownUptoRow, standIns := [], harness := (true, "d361b72651c51f00e00bd66656b951f8275aa7b490e7d4f893b1ceb2d3d7c471"), looks := true }, kinds := [], alts := [], laidByText := true, laidKinds := [.handle], laidTests := true, laidLooks := .later }
def ExpandKnownUptoCardSaid : Prop := Claim7.holds Tryz.pinned (.plain (OpenSpec.upto expandKnownSpec)) expandKnownUptoCard
end Rows
end Go.Proofs.YtjmekcakiacdfabGreatDoor
