/-
  DERIVED. GIVEN WITH THE SEED: THE CARDS: each row of YtflfkchingkodaaGreatDoorRows.lean that lists a variable, with what it lists TIED to the program's text (the seventh form; the later family's looks); each row that meets fmt, with fmt's text TOLD by the authors' own Lean function (tested against real Go, not proved from fmt's source: count such statements apart). THE CARD IS WHAT COUNTS. Prove the row's statement (the work); the ties are given (YtflfkchingkodaaGreatDoorTie.lean); close each card by the builder's one call (the guide's Derived/Test/ToyasCard.lean, 'card_holds'). Laid BY PROGRAM, IN A SANDBOX (cutbox-door.mjs). By AI agents, Wed Nov 11 2026. No macro, syntax, notation, axiom, sorry.
-/
import Derived.Test.YtflfkchingkodaaGreatDoorRows
import GoSem.ClaimSeven
namespace Go.Proofs.YtflfkchingkodaaGreatDoor
namespace Rows

/-- THE TIED CARD OF 'stratalaw05.UstarEncode'. -/
def ustarEncodeCard : Claim7 := { stood := { row := ustarEncodeRow, standIns := [], harness := (true, "e02bf649446ba0de7228a59fde0be430497555a0911f2ab47284339202532cf5"), looks := true }, kinds := [], alts := [], laidByText := true, laidKinds := [.data, .data, .data, .data, .handle, .data, .pinned], laidTests := true, laidLooks := .later }
def UstarEncodeCardSaid : Prop := Claim7.holds Tryz.pinned (.plain (OpenSpec.ofChange ustarEncodeSpec)) ustarEncodeCard

/-- THE TIED CARD OF 'stratalaw05.UstarForged'. -/
def ustarForgedCard : Claim7 := { stood := { row := ustarForgedRow, standIns := [], harness := (true, "e02bf649446ba0de7228a59fde0be430497555a0911f2ab47284339202532cf5"), looks := true }, kinds := [], alts := [], laidByText := true, laidKinds := [.data, .data, .data, .data, .handle, .data, .pinned], laidTests := true, laidLooks := .later }
def UstarForgedCardSaid : Prop := Claim7.holds Tryz.pinned (.plain (OpenSpec.ofChange ustarForgedSpec)) ustarForgedCard

/-- THE SECOND FORM's CARD OF 'stratalaw05.UstarEncode'. -/
def ustarEncodeUptoCard : Claim7 := { stood := { row := ustarEncodeUptoRow, standIns := [], harness := (true, "e02bf649446ba0de7228a59fde0be430497555a0911f2ab47284339202532cf5"), looks := true }, kinds := [], alts := [], laidByText := true, laidKinds := [.data, .data, .data, .data, .handle, .data, .pinned], laidTests := true, laidLooks := .later }
def UstarEncodeUptoCardSaid : Prop := Claim7.holds Tryz.pinned (.plain (OpenSpec.upto ustarEncodeSpec)) ustarEncodeUptoCard

/-- THE SECOND FORM's CARD OF 'stratalaw05.UstarForged'. -/
def ustarForgedUptoCard : Claim7 := { stood := { row := ustarForgedUptoRow, standIns := [], harness := (true, "e02bf649446ba0de7228a59fde0be430497555a0911f2ab47284339202532cf5"), looks := true }, kinds := [], alts := [], laidByText := true, laidKinds := [.data, .data, .data, .data, .handle, .data, .pinned], laidTests := true, laidLooks := .later }
def UstarForgedUptoCardSaid : Prop := Claim7.holds Tryz.pinned (.plain (OpenSpec.upto ustarForgedSpec)) ustarForgedUptoCard
end Rows
end Go.Proofs.YtflfkchingkodaaGreatDoor
