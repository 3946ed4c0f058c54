/-
  DERIVED. GIVEN WITH THE SEED: THE CARDS: each row of YtmohlmodaibbaaaDoorRows.lean that lists a variable, with what it lists TIED to the program's text (the seventh form; the later family's looks); each row that meets fmt, with fmt's text TOLD by the authors' own Lean function (tested against real Go, not proved from fmt's source: count such statements apart). THE CARD IS WHAT COUNTS. Prove the row's statement (the work); the ties are given (YtmohlmodaibbaaaDoorTie.lean); close each card by the builder's one call (the guide's Derived/Test/ToyasCard.lean, 'card_holds'). Laid BY PROGRAM, IN A SANDBOX (cutbox-door.mjs). By AI agents, Wed Nov 11 2026. No macro, syntax, notation, axiom, sorry.
-/
import Derived.Test.YtmohlmodaibbaaaDoorRows
import GoSem.ClaimSeven
namespace Go.Proofs.YtmohlmodaibbaaaDoor
namespace Rows

/-- THE TIED CARD OF 'stratalaw03.DigestClashes'. -/
def digestClashesCard : Claim7 := { stood := { row := digestClashesRow, standIns := [], harness := (true, "86dd8d468b0d4d4424316b9b2aa2b4f0849621049b5d7967a351e43d25ae831a"), looks := false }, kinds := [], alts := [], laidByText := true, laidKinds := [.data, .data, .data, .widerDeep, .data, .data], laidTests := true, laidLooks := .later }
def DigestClashesCardSaid : Prop := Claim7.holds Tryd.pinned (.plain (OpenSpec.ofChange digestClashesSpec)) digestClashesCard

/-- THE SECOND FORM's CARD OF 'stratalaw03.DigestClashes'. -/
def digestClashesUptoCard : Claim7 := { stood := { row := digestClashesUptoRow, standIns := [], harness := (true, "86dd8d468b0d4d4424316b9b2aa2b4f0849621049b5d7967a351e43d25ae831a"), looks := false }, kinds := [], alts := [], laidByText := true, laidKinds := [.data, .data, .data, .widerDeep, .data, .data], laidTests := true, laidLooks := .later }
def DigestClashesUptoCardSaid : Prop := Claim7.holds Tryd.pinned (.plain (OpenSpec.upto digestClashesSpec)) digestClashesUptoCard
end Rows
end Go.Proofs.YtmohlmodaibbaaaDoor
