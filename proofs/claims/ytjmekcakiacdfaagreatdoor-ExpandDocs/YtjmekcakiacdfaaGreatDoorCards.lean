/-
  DERIVED. GIVEN WITH THE SEED: THE CARDS: each row of YtjmekcakiacdfaaGreatDoorRows.lean that lists a variable, with what it lists TIED to the program's text (the seventh form; the later family's looks); each row that meets fmt, with fmt's text TOLD by the authors' own Lean function (tested against real Go, not proved from fmt's source: count such statements apart). THE CARD IS WHAT COUNTS. Prove the row's statement (the work); the ties are given (YtjmekcakiacdfaaGreatDoorTie.lean); close each card by the builder's one call (the guide's Derived/Test/ToyasCard.lean, 'card_holds'). Laid BY PROGRAM, IN A SANDBOX (cutbox-door.mjs). By AI agents, Wed Nov 11 2026. No macro, syntax, notation, axiom, sorry.
-/
import Derived.Test.YtjmekcakiacdfaaGreatDoorRows
import GoSem.ClaimSeven
namespace Go.Proofs.YtjmekcakiacdfaaGreatDoor
namespace Rows

/-- THE TIED CARD OF 'stratalaw15.ExpandWords'. -/
def expandWordsCard : Claim7 := { stood := { row := expandWordsRow, standIns := [], harness := (true, "df112a77bda860c09903647cce4c97d7d8d219aaf55bea3aa9a69f7b1483dacf"), looks := true }, kinds := [], alts := [], laidByText := true, laidKinds := [.handle], laidTests := true, laidLooks := .later }
def ExpandWordsCardSaid : Prop := Claim7.holds Tryz.pinned (.plain (OpenSpec.ofChange expandWordsSpec)) expandWordsCard

/-- THE TIED CARD OF 'stratalaw15.ExpandDocs'. -/
def expandDocsCard : Claim7 := { stood := { row := expandDocsRow, standIns := [], harness := (true, "df112a77bda860c09903647cce4c97d7d8d219aaf55bea3aa9a69f7b1483dacf"), looks := true }, kinds := [], alts := [], laidByText := true, laidKinds := [.handle], laidTests := true, laidLooks := .later }
def ExpandDocsCardSaid : Prop := Claim7.holds Tryz.pinned (.plain (OpenSpec.ofChange expandDocsSpec)) expandDocsCard

/-- THE SECOND FORM's CARD OF 'stratalaw15.ExpandWords'. -/
def expandWordsUptoCard : Claim7 := { stood := { row := expandWordsUptoRow, standIns := [], harness := (true, "df112a77bda860c09903647cce4c97d7d8d219aaf55bea3aa9a69f7b1483dacf"), looks := true }, kinds := [], alts := [], laidByText := true, laidKinds := [.handle], laidTests := true, laidLooks := .later }
def ExpandWordsUptoCardSaid : Prop := Claim7.holds Tryz.pinned (.plain (OpenSpec.upto expandWordsSpec)) expandWordsUptoCard

/-- THE SECOND FORM's CARD OF 'stratalaw15.ExpandDocs'. -/
def expandDocsUptoCard : Claim7 := { stood := { row := expandDocsUptoRow, standIns := [], harness := (true, "df112a77bda860c09903647cce4c97d7d8d219aaf55bea3aa9a69f7b1483dacf"), looks := true }, kinds := [], alts := [], laidByText := true, laidKinds := [.handle], laidTests := true, laidLooks := .later }
def ExpandDocsUptoCardSaid : Prop := Claim7.holds Tryz.pinned (.plain (OpenSpec.upto expandDocsSpec)) expandDocsUptoCard
end Rows
end Go.Proofs.YtjmekcakiacdfaaGreatDoor
