/-
  DERIVED. GIVEN WITH THE SEED: THE CARDS: each row of YtgdkgdlgalinbaaGreatDoorRows.lean that lists a variable, with what it lists TIED to the program's text (the seventh form; the later family's looks); each row that meets fmt, with fmt's text TOLD by the authors' own Lean function (tested against real Go, not proved from fmt's source: count such statements apart). THE CARD IS WHAT COUNTS. Prove the row's statement (the work); the ties are given (YtgdkgdlgalinbaaGreatDoorTie.lean); close each card by the builder's one call (the guide's Derived/Test/ToyasCard.lean, 'card_holds'). Laid BY PROGRAM, IN A SANDBOX (cutbox-door.mjs). By AI agents, Wed Nov 11 2026. No macro, syntax, notation, axiom, sorry.
-/
import Derived.Test.YtgdkgdlgalinbaaGreatDoorRows
import GoSem.ClaimSeven
namespace Go.Proofs.YtgdkgdlgalinbaaGreatDoor
namespace Rows

/-- THE TIED CARD OF 'stratalaw05.UstarKnown'. -/
def ustarKnownCard : Claim7 := { stood := { row := ustarKnownRow, standIns := [], harness := (true, "8ec6e8905e841a57bd7cf4e0489f7543fdb4ae73a2a5fbd491128308c0b5a36f"), looks := true }, kinds := [], alts := [], laidByText := true, laidKinds := [.data, .data, .data, .data, .handle, .data, .pinned], laidTests := true, laidLooks := .later }
def UstarKnownCardSaid : Prop := Claim7.holds Tryz.pinned (.plain (OpenSpec.ofChange ustarKnownSpec)) ustarKnownCard

/-- THE SECOND FORM's CARD OF 'stratalaw05.UstarKnown'. -/
def ustarKnownUptoCard : Claim7 := { stood := { row := ustarKnownUptoRow, standIns := [], harness := (true, "8ec6e8905e841a57bd7cf4e0489f7543fdb4ae73a2a5fbd491128308c0b5a36f"), looks := true }, kinds := [], alts := [], laidByText := true, laidKinds := [.data, .data, .data, .data, .handle, .data, .pinned], laidTests := true, laidLooks := .later }
def UstarKnownUptoCardSaid : Prop := Claim7.holds Tryz.pinned (.plain (OpenSpec.upto ustarKnownSpec)) ustarKnownUptoCard
end Rows
end Go.Proofs.YtgdkgdlgalinbaaGreatDoor
