/-
  DERIVED. GIVEN WITH THE SEED: THE CARDS: each row of YtcoinfancoeepabDoorRows.lean that lists a variable, with what it lists TIED to the program's text (the seventh form; the later family's looks); each row that meets fmt, with fmt's text TOLD by the authors' own Lean function (tested against real Go, not proved from fmt's source: count such statements apart). THE CARD IS WHAT COUNTS. Prove the row's statement (the work); the ties are given (YtcoinfancoeepabDoorTie.lean); close each card by the builder's one call (the guide's Derived/Test/ToyasCard.lean, 'card_holds'). Laid BY PROGRAM, IN A SANDBOX (cutbox-door.mjs). By AI agents, Wed Nov 11 2026. No macro, syntax, notation, axiom, sorry.
-/
import Derived.Test.YtcoinfancoeepabDoorRows
import GoSem.ClaimSeven
namespace Go.Proofs.YtcoinfancoeepabDoor
namespace Rows

/-- THE TIED CARD OF 'stratalaw06.FlateCut'. -/
def flateCutCard : Claim7 := { stood := { row := flateCutRow, standIns := [], harness := (true, "6dff365b55c1d32a08f371fd01d66288bea374282c5ec040701460bc5b89e2f4"), looks := true }, kinds := [], alts := [], laidByText := true, laidKinds := [.handle, .data, .data, .data, .data, .data], laidTests := true, laidLooks := .later }
def FlateCutCardSaid : Prop := Claim7.holds Tryd.pinned (.plain (OpenSpec.ofChange flateCutSpec)) flateCutCard

/-- THE TIED CARD OF 'stratalaw06.FlateSmall'. -/
def flateSmallCard : Claim7 := { stood := { row := flateSmallRow, standIns := [], harness := (true, "6dff365b55c1d32a08f371fd01d66288bea374282c5ec040701460bc5b89e2f4"), looks := true }, kinds := [], alts := [], laidByText := true, laidKinds := [.data, .data, .data, .data, .data], laidTests := true, laidLooks := .later }
def FlateSmallCardSaid : Prop := Claim7.holds Tryd.pinned (.plain (OpenSpec.ofChange flateSmallSpec)) flateSmallCard

/-- THE TIED CARD OF 'stratalaw06.FlateSums'. -/
def flateSumsCard : Claim7 := { stood := { row := flateSumsRow, standIns := [], harness := (true, "6dff365b55c1d32a08f371fd01d66288bea374282c5ec040701460bc5b89e2f4"), looks := true }, kinds := [], alts := [], laidByText := true, laidKinds := [.data, .data, .data, .data, .data], laidTests := true, laidLooks := .later }
def FlateSumsCardSaid : Prop := Claim7.holds Tryd.pinned (.plain (OpenSpec.ofChange flateSumsSpec)) flateSumsCard

/-- THE TIED CARD OF 'stratalaw06.FlateTells'. -/
def flateTellsCard : Claim7 := { stood := { row := flateTellsRow, standIns := [], harness := (true, "6dff365b55c1d32a08f371fd01d66288bea374282c5ec040701460bc5b89e2f4"), looks := true }, kinds := [], alts := [], laidByText := true, laidKinds := [.handle, .data, .data, .data, .data, .data], laidTests := true, laidLooks := .later }
def FlateTellsCardSaid : Prop := Claim7.holds Tryd.pinned (.plain (OpenSpec.ofChange flateTellsSpec)) flateTellsCard

/-- THE SECOND FORM's CARD OF 'stratalaw06.FlateCut'. -/
def flateCutUptoCard : Claim7 := { stood := { row := flateCutUptoRow, standIns := [], harness := (true, "6dff365b55c1d32a08f371fd01d66288bea374282c5ec040701460bc5b89e2f4"), looks := true }, kinds := [], alts := [], laidByText := true, laidKinds := [.handle, .data, .data, .data, .data, .data], laidTests := true, laidLooks := .later }
def FlateCutUptoCardSaid : Prop := Claim7.holds Tryd.pinned (.plain (OpenSpec.upto flateCutSpec)) flateCutUptoCard

/-- THE SECOND FORM's CARD OF 'stratalaw06.FlateSmall'. -/
def flateSmallUptoCard : Claim7 := { stood := { row := flateSmallUptoRow, standIns := [], harness := (true, "6dff365b55c1d32a08f371fd01d66288bea374282c5ec040701460bc5b89e2f4"), looks := true }, kinds := [], alts := [], laidByText := true, laidKinds := [.data, .data, .data, .data, .data], laidTests := true, laidLooks := .later }
def FlateSmallUptoCardSaid : Prop := Claim7.holds Tryd.pinned (.plain (OpenSpec.upto flateSmallSpec)) flateSmallUptoCard

/-- THE SECOND FORM's CARD OF 'stratalaw06.FlateSums'. -/
def flateSumsUptoCard : Claim7 := { stood := { row := flateSumsUptoRow, standIns := [], harness := (true, "6dff365b55c1d32a08f371fd01d66288bea374282c5ec040701460bc5b89e2f4"), looks := true }, kinds := [], alts := [], laidByText := true, laidKinds := [.data, .data, .data, .data, .data], laidTests := true, laidLooks := .later }
def FlateSumsUptoCardSaid : Prop := Claim7.holds Tryd.pinned (.plain (OpenSpec.upto flateSumsSpec)) flateSumsUptoCard

/-- THE SECOND FORM's CARD OF 'stratalaw06.FlateTells'. -/
def flateTellsUptoCard : Claim7 := { stood := { row := flateTellsUptoRow, standIns := [], harness := (true, "6dff365b55c1d32a08f371fd01d66288bea374282c5ec040701460bc5b89e2f4"), looks := true }, kinds := [], alts := [], laidByText := true, laidKinds := [.handle, .data, .data, .data, .data, .data], laidTests := true, laidLooks := .later }
def FlateTellsUptoCardSaid : Prop := Claim7.holds Tryd.pinned (.plain (OpenSpec.upto flateTellsSpec)) flateTellsUptoCard
end Rows
end Go.Proofs.YtcoinfancoeepabDoor
