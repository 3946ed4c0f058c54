/-
  DERIVED. GIVEN WITH THE SEED: THE CARDS: each row of YtjgijbeedgggdabGreatDoorRows.lean that lists a variable, with what it lists TIED to the program's text (the seventh form; the later family's looks); each row that meets fmt, with fmt's text TOLD by the authors' own Lean function (tested against real Go, not proved from fmt's source: count such statements apart). THE CARD IS WHAT COUNTS. Prove the row's statement (the work); the ties are given (YtjgijbeedgggdabGreatDoorTie.lean); close each card by the builder's one call (the guide's Derived/Test/ToyasCard.lean, 'card_holds'). Laid BY PROGRAM, IN A SANDBOX (cutbox-door.mjs). By AI agents, Wed Nov 11 2026. No macro, syntax, notation, axiom, sorry.
-/
import Derived.Test.YtjgijbeedgggdabGreatDoorRows
import GoSem.ClaimSeven
namespace Go.Proofs.YtjgijbeedgggdabGreatDoor
namespace Rows

/-- THE TIED CARD OF 'stratalaw14.LexDocs'. -/
def lexDocsCard : Claim7 := { stood := { row := lexDocsRow, standIns := [], harness := (true, "499b57ce24517c247cff14cd49c59703ed8f885098f29db4c892fef2cdce4930"), looks := true }, kinds := [], alts := [], laidByText := true, laidKinds := [.data, .handle, .data, .data, .pinned, .pinned], laidTests := true, laidLooks := .later }
def LexDocsCardSaid : Prop := Claim7.holds Tryz.pinned (.plain (OpenSpec.ofChange lexDocsSpec)) lexDocsCard

/-- THE SECOND FORM's CARD OF 'stratalaw14.LexDocs'. -/
def lexDocsUptoCard : Claim7 := { stood := { row := lexDocsUptoRow, standIns := [], harness := (true, "499b57ce24517c247cff14cd49c59703ed8f885098f29db4c892fef2cdce4930"), looks := true }, kinds := [], alts := [], laidByText := true, laidKinds := [.data, .handle, .data, .data, .pinned, .pinned], laidTests := true, laidLooks := .later }
def LexDocsUptoCardSaid : Prop := Claim7.holds Tryz.pinned (.plain (OpenSpec.upto lexDocsSpec)) lexDocsUptoCard
end Rows
end Go.Proofs.YtjgijbeedgggdabGreatDoor
