/-
  DERIVED. GIVEN WITH THE SEED: THE CARDS: each row of YtkaegdmkpjmfeabGreatDoorRows.lean that lists a variable, with what it lists TIED to the program's text (the seventh form; the later family's looks); each row that meets fmt, with fmt's text TOLD by the authors' own Lean function (tested against real Go, not proved from fmt's source: count such statements apart). THE CARD IS WHAT COUNTS. Prove the row's statement (the work); the ties are given (YtkaegdmkpjmfeabGreatDoorTie.lean); close each card by the builder's one call (the guide's Derived/Test/ToyasCard.lean, 'card_holds'). Laid BY PROGRAM, IN A SANDBOX (cutbox-door.mjs). By AI agents, Wed Nov 11 2026. No macro, syntax, notation, axiom, sorry.
-/
import Derived.Test.YtkaegdmkpjmfeabGreatDoorRows
import GoSem.ClaimSeven
namespace Go.Proofs.YtkaegdmkpjmfeabGreatDoor
namespace Rows

/-- THE TIED CARD OF 'stratalaw08.ResolveOn'. -/
def resolveOnCard : Claim7 := { stood := { row := resolveOnRow, standIns := [], harness := (true, "dd5793ed589a7f866583010394c31622eead37bc740b5a1beddc17484f10164d"), looks := true }, kinds := [], alts := [], laidByText := true, laidKinds := [.handle], laidTests := true, laidLooks := .later }
def ResolveOnCardSaid : Prop := Claim7.holds Tryz.pinned (.plain (OpenSpec.ofChange resolveOnSpec)) resolveOnCard

/-- THE TIED CARD OF 'stratalaw08.ResolveEnds'. -/
def resolveEndsCard : Claim7 := { stood := { row := resolveEndsRow, standIns := [], harness := (true, "dd5793ed589a7f866583010394c31622eead37bc740b5a1beddc17484f10164d"), looks := true }, kinds := [], alts := [], laidByText := true, laidKinds := [.handle], laidTests := true, laidLooks := .later }
def ResolveEndsCardSaid : Prop := Claim7.holds Tryz.pinned (.plain (OpenSpec.ofChange resolveEndsSpec)) resolveEndsCard

/-- THE SECOND FORM's CARD OF 'stratalaw08.ResolveOn'. -/
def resolveOnUptoCard : Claim7 := { stood := { row := resolveOnUptoRow, standIns := [], harness := (true, "dd5793ed589a7f866583010394c31622eead37bc740b5a1beddc17484f10164d"), looks := true }, kinds := [], alts := [], laidByText := true, laidKinds := [.handle], laidTests := true, laidLooks := .later }
def ResolveOnUptoCardSaid : Prop := Claim7.holds Tryz.pinned (.plain (OpenSpec.upto resolveOnSpec)) resolveOnUptoCard

/-- THE SECOND FORM's CARD OF 'stratalaw08.ResolveEnds'. -/
def resolveEndsUptoCard : Claim7 := { stood := { row := resolveEndsUptoRow, standIns := [], harness := (true, "dd5793ed589a7f866583010394c31622eead37bc740b5a1beddc17484f10164d"), looks := true }, kinds := [], alts := [], laidByText := true, laidKinds := [.handle], laidTests := true, laidLooks := .later }
def ResolveEndsUptoCardSaid : Prop := Claim7.holds Tryz.pinned (.plain (OpenSpec.upto resolveEndsSpec)) resolveEndsUptoCard
end Rows
end Go.Proofs.YtkaegdmkpjmfeabGreatDoor
