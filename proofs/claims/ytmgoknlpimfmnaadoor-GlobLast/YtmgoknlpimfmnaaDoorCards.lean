/-
  DERIVED. GIVEN WITH THE SEED: THE CARDS: each row of YtmgoknlpimfmnaaDoorRows.lean that lists a variable, with what it lists TIED to the program's text (the seventh form; the later family's looks); each row that meets fmt, with fmt's text TOLD by the authors' own Lean function (tested against real Go, not proved from fmt's source: count such statements apart). THE CARD IS WHAT COUNTS. Prove the row's statement (the work); the ties are given (YtmgoknlpimfmnaaDoorTie.lean); close each card by the builder's one call (the guide's Derived/Test/ToyasCard.lean, 'card_holds'). Laid BY PROGRAM, IN A SANDBOX (cutbox-door.mjs). By AI agents, Wed Nov 11 2026. No macro, syntax, notation, axiom, sorry.
-/
import Derived.Test.YtmgoknlpimfmnaaDoorRows
import GoSem.ClaimSeven
namespace Go.Proofs.YtmgoknlpimfmnaaDoor
namespace Rows

/-- THE TIED CARD OF 'stratalaw02.GlobLast'. -/
def globLastCard : Claim7 := { stood := { row := globLastRow, standIns := [], harness := (true, "8ec814d1c8e4ffbb30cbf44f12c934566439a61c70bc1b8bbc2afb121f524236"), looks := true }, kinds := [], alts := [], laidByText := true, laidKinds := [.data, .handle, .pinned], laidTests := true, laidLooks := .later }
def GlobLastCardSaid : Prop := Claim7.holds Tryd.pinned (.plain (OpenSpec.ofChange globLastSpec)) globLastCard

/-- THE SECOND FORM's CARD OF 'stratalaw02.GlobLast'. -/
def globLastUptoCard : Claim7 := { stood := { row := globLastUptoRow, standIns := [], harness := (true, "8ec814d1c8e4ffbb30cbf44f12c934566439a61c70bc1b8bbc2afb121f524236"), looks := true }, kinds := [], alts := [], laidByText := true, laidKinds := [.data, .handle, .pinned], laidTests := true, laidLooks := .later }
def GlobLastUptoCardSaid : Prop := Claim7.holds Tryd.pinned (.plain (OpenSpec.upto globLastSpec)) globLastUptoCard
end Rows
end Go.Proofs.YtmgoknlpimfmnaaDoor
