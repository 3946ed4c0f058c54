/-
  DERIVED. GIVEN WITH THE SEED: THE CARDS: each row of YtjgdeblmgmojcaaGreatDoorRows.lean that lists a variable, with what it lists TIED to the program's text (the seventh form; the later family's looks); each row that meets fmt, with fmt's text TOLD by the authors' own Lean function (tested against real Go, not proved from fmt's source: count such statements apart). THE CARD IS WHAT COUNTS. Prove the row's statement (the work); the ties are given (YtjgdeblmgmojcaaGreatDoorTie.lean); close each card by the builder's one call (the guide's Derived/Test/ToyasCard.lean, 'card_holds'). Laid BY PROGRAM, IN A SANDBOX (cutbox-door.mjs). By AI agents, Wed Nov 11 2026. No macro, syntax, notation, axiom, sorry.
-/
import Derived.Test.YtjgdeblmgmojcaaGreatDoorRows
import GoSem.ClaimSeven
namespace Go.Proofs.YtjgdeblmgmojcaaGreatDoor
namespace Rows

/-- THE TIED CARD OF 'stratalaw05.UstarTrees'. -/
def ustarTreesCard : Claim7 := { stood := { row := ustarTreesRow, standIns := [], harness := (true, "1bfd65ad9dd973d09af9da1838a2c35067eb09a1c2f9330aae99ab148cb179c4"), looks := true }, kinds := [], alts := [], laidByText := true, laidKinds := [.data, .data, .data, .data, .handle, .data, .pinned], laidTests := true, laidLooks := .later }
def UstarTreesCardSaid : Prop := Claim7.holds Tryz.pinned (.plain (OpenSpec.ofChange ustarTreesSpec)) ustarTreesCard

/-- THE SECOND FORM's CARD OF 'stratalaw05.UstarTrees'. -/
def ustarTreesUptoCard : Claim7 := { stood := { row := ustarTreesUptoRow, standIns := [], harness := (true, "1bfd65ad9dd973d09af9da1838a2c35067eb09a1c2f9330aae99ab148cb179c4"), looks := true }, kinds := [], alts := [], laidByText := true, laidKinds := [.data, .data, .data, .data, .handle, .data, .pinned], laidTests := true, laidLooks := .later }
def UstarTreesUptoCardSaid : Prop := Claim7.holds Tryz.pinned (.plain (OpenSpec.upto ustarTreesSpec)) ustarTreesUptoCard
end Rows
end Go.Proofs.YtjgdeblmgmojcaaGreatDoor
