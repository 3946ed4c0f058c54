/-
  DERIVED. GIVEN WITH THE SEED: THE CARDS: each row of YtolaekngmoacaabGreatDoorRows.lean that lists a variable, with what it lists TIED to the program's text (the seventh form; the later family's looks); each row that meets fmt, with fmt's text TOLD by the authors' own Lean function (tested against real Go, not proved from fmt's source: count such statements apart). THE CARD IS WHAT COUNTS. Prove the row's statement (the work); the ties are given (YtolaekngmoacaabGreatDoorTie.lean); close each card by the builder's one call (the guide's Derived/Test/ToyasCard.lean, 'card_holds'). Laid BY PROGRAM, IN A SANDBOX (cutbox-door.mjs). By AI agents, Wed Nov 11 2026. No macro, syntax, notation, axiom, sorry.
-/
import Derived.Test.YtolaekngmoacaabGreatDoorRows
import GoSem.ClaimSeven
namespace Go.Proofs.YtolaekngmoacaabGreatDoor
namespace Rows

/-- THE TIED CARD OF 'stratalaw05.UstarOne'. -/
def ustarOneCard : Claim7 := { stood := { row := ustarOneRow, standIns := [], harness := (true, "0a302dd83ce2300d6f3e6f269d338d55bb1d70b8cc9bfc497901378af9149787"), looks := true }, kinds := [], alts := [], laidByText := true, laidKinds := [.data, .data, .data, .data, .handle, .data, .pinned], laidTests := true, laidLooks := .later }
def UstarOneCardSaid : Prop := Claim7.holds Tryz.pinned (.plain (OpenSpec.ofChange ustarOneSpec)) ustarOneCard

/-- THE TIED CARD OF 'stratalaw05.UstarPosix'. -/
def ustarPosixCard : Claim7 := { stood := { row := ustarPosixRow, standIns := [], harness := (true, "0a302dd83ce2300d6f3e6f269d338d55bb1d70b8cc9bfc497901378af9149787"), looks := true }, kinds := [], alts := [], laidByText := true, laidKinds := [.data, .data, .data, .data, .handle, .data, .pinned], laidTests := true, laidLooks := .later }
def UstarPosixCardSaid : Prop := Claim7.holds Tryz.pinned (.plain (OpenSpec.ofChange ustarPosixSpec)) ustarPosixCard

/-- THE TIED CARD OF 'stratalaw05.UstarTrees'. -/
def ustarTreesCard : Claim7 := { stood := { row := ustarTreesRow, standIns := [], harness := (true, "0a302dd83ce2300d6f3e6f269d338d55bb1d70b8cc9bfc497901378af9149787"), looks := true }, kinds := [], alts := [], laidByText := true, laidKinds := [.data, .data, .data, .data, .handle, .data, .pinned], laidTests := true, laidLooks := .later }
def UstarTreesCardSaid : Prop := Claim7.holds Tryz.pinned (.plain (OpenSpec.ofChange ustarTreesSpec)) ustarTreesCard

/-- THE SECOND FORM's CARD OF 'stratalaw05.UstarOne'. -/
def ustarOneUptoCard : Claim7 := { stood := { row := ustarOneUptoRow, standIns := [], harness := (true, "0a302dd83ce2300d6f3e6f269d338d55bb1d70b8cc9bfc497901378af9149787"), looks := true }, kinds := [], alts := [], laidByText := true, laidKinds := [.data, .data, .data, .data, .handle, .data, .pinned], laidTests := true, laidLooks := .later }
def UstarOneUptoCardSaid : Prop := Claim7.holds Tryz.pinned (.plain (OpenSpec.upto ustarOneSpec)) ustarOneUptoCard

/-- THE SECOND FORM's CARD OF 'stratalaw05.UstarPosix'. -/
def ustarPosixUptoCard : Claim7 := { stood := { row := ustarPosixUptoRow, standIns := [], harness := (true, "0a302dd83ce2300d6f3e6f269d338d55bb1d70b8cc9bfc497901378af9149787"), looks := true }, kinds := [], alts := [], laidByText := true, laidKinds := [.data, .data, .data, .data, .handle, .data, .pinned], laidTests := true, laidLooks := .later }
def UstarPosixUptoCardSaid : Prop := Claim7.holds Tryz.pinned (.plain (OpenSpec.upto ustarPosixSpec)) ustarPosixUptoCard

/-- THE SECOND FORM's CARD OF 'stratalaw05.UstarTrees'. -/
def ustarTreesUptoCard : Claim7 := { stood := { row := ustarTreesUptoRow, standIns := [], harness := (true, "0a302dd83ce2300d6f3e6f269d338d55bb1d70b8cc9bfc497901378af9149787"), looks := true }, kinds := [], alts := [], laidByText := true, laidKinds := [.data, .data, .data, .data, .handle, .data, .pinned], laidTests := true, laidLooks := .later }
def UstarTreesUptoCardSaid : Prop := Claim7.holds Tryz.pinned (.plain (OpenSpec.upto ustarTreesSpec)) ustarTreesUptoCard
end Rows
end Go.Proofs.YtolaekngmoacaabGreatDoor
