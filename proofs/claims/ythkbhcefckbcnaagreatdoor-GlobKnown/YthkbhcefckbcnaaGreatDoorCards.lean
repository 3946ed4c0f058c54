/-
  DERIVED. GIVEN WITH THE SEED: THE CARDS: each row of YthkbhcefckbcnaaGreatDoorRows.lean that lists a variable, with what it lists TIED to the program's text (the seventh form; the later family's looks); each row that meets fmt, with fmt's text TOLD by the authors' own Lean function (tested against real Go, not proved from fmt's source: count such statements apart). THE CARD IS WHAT COUNTS. Prove the row's statement (the work); the ties are given (YthkbhcefckbcnaaGreatDoorTie.lean); close each card by the builder's one call (the guide's Derived/Test/ToyasCard.lean, 'card_holds'). Laid BY PROGRAM, IN A SANDBOX (cutbox-door.mjs). By AI agents, Wed Nov 11 2026. No macro, syntax, notation, axiom, sorry.
-/
import Derived.Test.YthkbhcefckbcnaaGreatDoorRows
import GoSem.ClaimSeven
namespace Go.Proofs.YthkbhcefckbcnaaGreatDoor
namespace Rows

/-- THE TIED CARD OF 'stratalaw02.GlobKeep'. -/
def globKeepCard : Claim7 := { stood := { row := globKeepRow, standIns := [], harness := (true, "d6db88b650d960bf36df7f779724cbc0c83592b1a3fbdfd477df347bb92dc6a1"), looks := true }, kinds := [], alts := [], laidByText := true, laidKinds := [.data, .handle, .pinned], laidTests := true, laidLooks := .later }
def GlobKeepCardSaid : Prop := Claim7.holds Tryz.pinned (.plain (OpenSpec.ofChange globKeepSpec)) globKeepCard

/-- THE TIED CARD OF 'stratalaw02.GlobTrees'. -/
def globTreesCard : Claim7 := { stood := { row := globTreesRow, standIns := [], harness := (true, "d6db88b650d960bf36df7f779724cbc0c83592b1a3fbdfd477df347bb92dc6a1"), looks := true }, kinds := [], alts := [], laidByText := true, laidKinds := [.data, .handle, .pinned], laidTests := true, laidLooks := .later }
def GlobTreesCardSaid : Prop := Claim7.holds Tryz.pinned (.plain (OpenSpec.ofChange globTreesSpec)) globTreesCard

/-- THE TIED CARD OF 'stratalaw02.GlobKnown'. -/
def globKnownCard : Claim7 := { stood := { row := globKnownRow, standIns := [], harness := (true, "d6db88b650d960bf36df7f779724cbc0c83592b1a3fbdfd477df347bb92dc6a1"), looks := true }, kinds := [], alts := [], laidByText := true, laidKinds := [.data, .handle, .pinned], laidTests := true, laidLooks := .later }
def GlobKnownCardSaid : Prop := Claim7.holds Tryz.pinned (.plain (OpenSpec.ofChange globKnownSpec)) globKnownCard

/-- THE SECOND FORM's CARD OF 'stratalaw02.GlobKeep'. -/
def globKeepUptoCard : Claim7 := { stood := { row := globKeepUptoRow, standIns := [], harness := (true, "d6db88b650d960bf36df7f779724cbc0c83592b1a3fbdfd477df347bb92dc6a1"), looks := true }, kinds := [], alts := [], laidByText := true, laidKinds := [.data, .handle, .pinned], laidTests := true, laidLooks := .later }
def GlobKeepUptoCardSaid : Prop := Claim7.holds Tryz.pinned (.plain (OpenSpec.upto globKeepSpec)) globKeepUptoCard

/-- THE SECOND FORM's CARD OF 'stratalaw02.GlobTrees'. -/
def globTreesUptoCard : Claim7 := { stood := { row := globTreesUptoRow, standIns := [], harness := (true, "d6db88b650d960bf36df7f779724cbc0c83592b1a3fbdfd477df347bb92dc6a1"), looks := true }, kinds := [], alts := [], laidByText := true, laidKinds := [.data, .handle, .pinned], laidTests := true, laidLooks := .later }
def GlobTreesUptoCardSaid : Prop := Claim7.holds Tryz.pinned (.plain (OpenSpec.upto globTreesSpec)) globTreesUptoCard

/-- THE SECOND FORM's CARD OF 'stratalaw02.GlobKnown'. -/
def globKnownUptoCard : Claim7 := { stood := { row := globKnownUptoRow, standIns := [], harness := (true, "d6db88b650d960bf36df7f779724cbc0c83592b1a3fbdfd477df347bb92dc6a1"), looks := true }, kinds := [], alts := [], laidByText := true, laidKinds := [.data, .handle, .pinned], laidTests := true, laidLooks := .later }
def GlobKnownUptoCardSaid : Prop := Claim7.holds Tryz.pinned (.plain (OpenSpec.upto globKnownSpec)) globKnownUptoCard
end Rows
end Go.Proofs.YthkbhcefckbcnaaGreatDoor
