/-
  DERIVED. GIVEN WITH THE SEED: THE CARDS: each row of YtbnmjlmmnadpaaaDoorRows.lean that lists a variable, with what it lists TIED to the program's text (the seventh form; the later family's looks); each row that meets fmt, with fmt's text TOLD by the authors' own Lean function (tested against real Go, not proved from fmt's source: count such statements apart). THE CARD IS WHAT COUNTS. Prove the row's statement (the work); the ties are given (YtbnmjlmmnadpaaaDoorTie.lean); close each card by the builder's one call (the guide's Derived/Test/ToyasCard.lean, 'card_holds'). Laid BY PROGRAM, IN A SANDBOX (cutbox-door.mjs). By AI agents, Wed Nov 11 2026. No macro, syntax, notation, axiom, sorry.
-/
import Derived.Test.YtbnmjlmmnadpaaaDoorRows
import GoSem.ClaimSeven
namespace Go.Proofs.YtbnmjlmmnadpaaaDoor
namespace Rows

/-- THE TIED CARD OF 'stratalaw03.DigestSums'. -/
def digestSumsCard : Claim7 := { stood := { row := digestSumsRow, standIns := [], harness := (true, "959b20b35e2f7e221b005ac403b13a18a43e6ead1107579c1ba52134d14719cb"), looks := false }, kinds := [], alts := [], laidByText := true, laidKinds := [.data, .data, .data, .widerDeep, .data, .data], laidTests := true, laidLooks := .later }
def DigestSumsCardSaid : Prop := Claim7.holds Tryd.pinned (.plain (OpenSpec.ofChange digestSumsSpec)) digestSumsCard

/-- THE TIED CARD OF 'stratalaw03.DigestHashes'. -/
def digestHashesCard : Claim7 := { stood := { row := digestHashesRow, standIns := [], harness := (true, "959b20b35e2f7e221b005ac403b13a18a43e6ead1107579c1ba52134d14719cb"), looks := false }, kinds := [], alts := [], laidByText := true, laidKinds := [.data, .data, .data, .widerDeep, .data, .data], laidTests := true, laidLooks := .later }
def DigestHashesCardSaid : Prop := Claim7.holds Tryd.pinned (.plain (OpenSpec.ofChange digestHashesSpec)) digestHashesCard

/-- THE TIED CARD OF 'stratalaw03.DigestClashes'. -/
def digestClashesCard : Claim7 := { stood := { row := digestClashesRow, standIns := [], harness := (true, "959b20b35e2f7e221b005ac403b13a18a43e6ead1107579c1ba52134d14719cb"), looks := false }, kinds := [], alts := [], laidByText := true, laidKinds := [.data, .data, .data, .widerDeep, .data, .data], laidTests := true, laidLooks := .later }
def DigestClashesCardSaid : Prop := Claim7.holds Tryd.pinned (.plain (OpenSpec.ofChange digestClashesSpec)) digestClashesCard

/-- THE TIED CARD OF 'stratalaw03.DigestWidths'. -/
def digestWidthsCard : Claim7 := { stood := { row := digestWidthsRow, standIns := [], harness := (true, "959b20b35e2f7e221b005ac403b13a18a43e6ead1107579c1ba52134d14719cb"), looks := false }, kinds := [], alts := [], laidByText := true, laidKinds := [.data, .data, .data, .data], laidTests := true, laidLooks := .later }
def DigestWidthsCardSaid : Prop := Claim7.holds Tryd.pinned (.plain (OpenSpec.ofChange digestWidthsSpec)) digestWidthsCard

/-- THE TIED CARD OF 'stratalaw03.DigestParted'. -/
def digestPartedCard : Claim7 := { stood := { row := digestPartedRow, standIns := [], harness := (true, "959b20b35e2f7e221b005ac403b13a18a43e6ead1107579c1ba52134d14719cb"), looks := false }, kinds := [], alts := [], laidByText := true, laidKinds := [.data, .data, .data, .data], laidTests := true, laidLooks := .later }
def DigestPartedCardSaid : Prop := Claim7.holds Tryd.pinned (.plain (OpenSpec.ofChange digestPartedSpec)) digestPartedCard

/-- THE SECOND FORM's CARD OF 'stratalaw03.DigestSums'. -/
def digestSumsUptoCard : Claim7 := { stood := { row := digestSumsUptoRow, standIns := [], harness := (true, "959b20b35e2f7e221b005ac403b13a18a43e6ead1107579c1ba52134d14719cb"), looks := false }, kinds := [], alts := [], laidByText := true, laidKinds := [.data, .data, .data, .widerDeep, .data, .data], laidTests := true, laidLooks := .later }
def DigestSumsUptoCardSaid : Prop := Claim7.holds Tryd.pinned (.plain (OpenSpec.upto digestSumsSpec)) digestSumsUptoCard

/-- THE SECOND FORM's CARD OF 'stratalaw03.DigestHashes'. -/
def digestHashesUptoCard : Claim7 := { stood := { row := digestHashesUptoRow, standIns := [], harness := (true, "959b20b35e2f7e221b005ac403b13a18a43e6ead1107579c1ba52134d14719cb"), looks := false }, kinds := [], alts := [], laidByText := true, laidKinds := [.data, .data, .data, .widerDeep, .data, .data], laidTests := true, laidLooks := .later }
def DigestHashesUptoCardSaid : Prop := Claim7.holds Tryd.pinned (.plain (OpenSpec.upto digestHashesSpec)) digestHashesUptoCard

/-- THE SECOND FORM's CARD OF 'stratalaw03.DigestClashes'. -/
def digestClashesUptoCard : Claim7 := { stood := { row := digestClashesUptoRow, standIns := [], harness := (true, "959b20b35e2f7e221b005ac403b13a18a43e6ead1107579c1ba52134d14719cb"), looks := false }, kinds := [], alts := [], laidByText := true, laidKinds := [.data, .data, .data, .widerDeep, .data, .data], laidTests := true, laidLooks := .later }
def DigestClashesUptoCardSaid : Prop := Claim7.holds Tryd.pinned (.plain (OpenSpec.upto digestClashesSpec)) digestClashesUptoCard

/-- THE SECOND FORM's CARD OF 'stratalaw03.DigestWidths'. -/
def digestWidthsUptoCard : Claim7 := { stood := { row := digestWidthsUptoRow, standIns := [], harness := (true, "959b20b35e2f7e221b005ac403b13a18a43e6ead1107579c1ba52134d14719cb"), looks := false }, kinds := [], alts := [], laidByText := true, laidKinds := [.data, .data, .data, .data], laidTests := true, laidLooks := .later }
def DigestWidthsUptoCardSaid : Prop := Claim7.holds Tryd.pinned (.plain (OpenSpec.upto digestWidthsSpec)) digestWidthsUptoCard

/-- THE SECOND FORM's CARD OF 'stratalaw03.DigestParted'. -/
def digestPartedUptoCard : Claim7 := { stood := { row := digestPartedUptoRow, standIns := [], harness := (true, "959b20b35e2f7e221b005ac403b13a18a43e6ead1107579c1ba52134d14719cb"), looks := false }, kinds := [], alts := [], laidByText := true, laidKinds := [.data, .data, .data, .data], laidTests := true, laidLooks := .later }
def DigestPartedUptoCardSaid : Prop := Claim7.holds Tryd.pinned (.plain (OpenSpec.upto digestPartedSpec)) digestPartedUptoCard
end Rows
end Go.Proofs.YtbnmjlmmnadpaaaDoor
