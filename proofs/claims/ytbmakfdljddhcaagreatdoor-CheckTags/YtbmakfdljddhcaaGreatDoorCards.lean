/-
  DERIVED. GIVEN WITH THE SEED: THE CARDS: each row of YtbmakfdljddhcaaGreatDoorRows.lean that lists a variable, with what it lists TIED to the program's text (the seventh form; the later family's looks); each row that meets fmt, with fmt's text TOLD by the authors' own Lean function (tested against real Go, not proved from fmt's source: count such statements apart). THE CARD IS WHAT COUNTS. Prove the row's statement (the work); the ties are given (YtbmakfdljddhcaaGreatDoorTie.lean); close each card by the builder's one call (the guide's Derived/Test/ToyasCard.lean, 'card_holds'). Laid BY PROGRAM, IN A SANDBOX (cutbox-door.mjs). By AI agents, Wed Nov 11 2026. No macro, syntax, notation, axiom, sorry.
-/
import Derived.Test.YtbmakfdljddhcaaGreatDoorRows
import GoSem.ClaimSeven
namespace Go.Proofs.YtbmakfdljddhcaaGreatDoor
namespace Rows

/-- THE TIED CARD OF 'stratalaw18.CheckRefs'. -/
def checkRefsCard : Claim7 := { stood := { row := checkRefsRow, standIns := [], harness := (true, "3287de7c9f21e9d57e98ffc7abf5fe8d33a1dba734e826c0a3adaaad15a725a7"), looks := true }, kinds := [], alts := [], laidByText := true, laidKinds := [.data, .handle, .pinned], laidTests := true, laidLooks := .later }
def CheckRefsCardSaid : Prop := Claim7.holds Tryz.pinned (.plain (OpenSpec.ofChange checkRefsSpec)) checkRefsCard

/-- THE TIED CARD OF 'stratalaw18.CheckTags'. -/
def checkTagsCard : Claim7 := { stood := { row := checkTagsRow, standIns := [], harness := (true, "3287de7c9f21e9d57e98ffc7abf5fe8d33a1dba734e826c0a3adaaad15a725a7"), looks := true }, kinds := [], alts := [], laidByText := true, laidKinds := [.data, .handle, .pinned], laidTests := true, laidLooks := .later }
def CheckTagsCardSaid : Prop := Claim7.holds Tryz.pinned (.plain (OpenSpec.ofChange checkTagsSpec)) checkTagsCard

/-- THE SECOND FORM's CARD OF 'stratalaw18.CheckRefs'. -/
def checkRefsUptoCard : Claim7 := { stood := { row := checkRefsUptoRow, standIns := [], harness := (true, "3287de7c9f21e9d57e98ffc7abf5fe8d33a1dba734e826c0a3adaaad15a725a7"), looks := true }, kinds := [], alts := [], laidByText := true, laidKinds := [.data, .handle, .pinned], laidTests := true, laidLooks := .later }
def CheckRefsUptoCardSaid : Prop := Claim7.holds Tryz.pinned (.plain (OpenSpec.upto checkRefsSpec)) checkRefsUptoCard

/-- THE SECOND FORM's CARD OF 'stratalaw18.CheckTags'. -/
def checkTagsUptoCard : Claim7 := { stood := { row := checkTagsUptoRow, standIns := [], harness := (true, "3287de7c9f21e9d57e98ffc7abf5fe8d33a1dba734e826c0a3adaaad15a725a7"), looks := true }, kinds := [], alts := [], laidByText := true, laidKinds := [.data, .handle, .pinned], laidTests := true, laidLooks := .later }
def CheckTagsUptoCardSaid : Prop := Claim7.holds Tryz.pinned (.plain (OpenSpec.upto checkTagsSpec)) checkTagsUptoCard
end Rows
end Go.Proofs.YtbmakfdljddhcaaGreatDoor
