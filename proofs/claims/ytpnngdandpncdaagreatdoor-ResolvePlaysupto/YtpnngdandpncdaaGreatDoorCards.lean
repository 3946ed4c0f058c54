/-
  DERIVED. GIVEN WITH THE SEED: THE CARDS: each row of YtpnngdandpncdaaGreatDoorRows.lean that lists a variable, with what it lists TIED to the program's text (the seventh form; the later family's looks); each row that meets fmt, with fmt's text TOLD by the authors' own Lean function (tested against real Go, not proved from fmt's source: count such statements apart). THE CARD IS WHAT COUNTS. Prove the row's statement (the work); the ties are given (YtpnngdandpncdaaGreatDoorTie.lean); close each card by the builder's one call (the guide's Derived/Test/ToyasCard.lean, 'card_holds'). Laid BY PROGRAM, IN A SANDBOX (cutbox-door.mjs). By AI agents, Wed Nov 11 2026. No macro, syntax, notation, axiom, sorry.
-/
import Derived.Test.YtpnngdandpncdaaGreatDoorRows
import GoSem.ClaimSeven
namespace Go.Proofs.YtpnngdandpncdaaGreatDoor
namespace Rows

/-- THE TIED CARD OF 'stratalaw08.ResolvePlays'. -/
def resolvePlaysCard : Claim7 := { stood := { row := resolvePlaysRow, standIns := [], harness := (true, "f94aa62ce42e0d1cf6828b76d11c6f98365e449bafdf45440dbbb55ba12f2727"), looks := true }, kinds := [], alts := [], laidByText := true, laidKinds := [.handle], laidTests := true, laidLooks := .later }
def ResolvePlaysCardSaid : Prop := Claim7.holds Tryz.pinned (.plain (OpenSpec.ofChange resolvePlaysSpec)) resolvePlaysCard

/-- THE TIED CARD OF 'stratalaw08.ResolveMakes'. -/
def resolveMakesCard : Claim7 := { stood := { row := resolveMakesRow, standIns := [], harness := (true, "f94aa62ce42e0d1cf6828b76d11c6f98365e449bafdf45440dbbb55ba12f2727"), looks := true }, kinds := [], alts := [], laidByText := true, laidKinds := [.handle], laidTests := true, laidLooks := .later }
def ResolveMakesCardSaid : Prop := Claim7.holds Tryz.pinned (.plain (OpenSpec.ofChange resolveMakesSpec)) resolveMakesCard

/-- THE TIED CARD OF 'stratatop.StrataWays'. -/
def strataWaysCard : Claim7 := { stood := { row := strataWaysRow, standIns := [], harness := (true, "f94aa62ce42e0d1cf6828b76d11c6f98365e449bafdf45440dbbb55ba12f2727"), looks := true }, kinds := [], alts := [], laidByText := true, laidKinds := [.handle], laidTests := true, laidLooks := .later }
def StrataWaysCardSaid : Prop := Claim7.holds Tryz.pinned (.plain (OpenSpec.ofChange strataWaysSpec)) strataWaysCard

/-- THE SECOND FORM's CARD OF 'stratalaw08.ResolvePlays'. -/
def resolvePlaysUptoCard : Claim7 := { stood := { row := resolvePlaysUptoRow, standIns := [], harness := (true, "f94aa62ce42e0d1cf6828b76d11c6f98365e449bafdf45440dbbb55ba12f2727"), looks := true }, kinds := [], alts := [], laidByText := true, laidKinds := [.handle], laidTests := true, laidLooks := .later }
def ResolvePlaysUptoCardSaid : Prop := Claim7.holds Tryz.pinned (.plain (OpenSpec.upto resolvePlaysSpec)) resolvePlaysUptoCard

/-- THE SECOND FORM's CARD OF 'stratalaw08.ResolveMakes'. -/
def resolveMakesUptoCard : Claim7 := { stood := { row := resolveMakesUptoRow, standIns := [], harness := (true, "f94aa62ce42e0d1cf6828b76d11c6f98365e449bafdf45440dbbb55ba12f2727"), looks := true }, kinds := [], alts := [], laidByText := true, laidKinds := [.handle], laidTests := true, laidLooks := .later }
def ResolveMakesUptoCardSaid : Prop := Claim7.holds Tryz.pinned (.plain (OpenSpec.upto resolveMakesSpec)) resolveMakesUptoCard

/-- THE SECOND FORM's CARD OF 'stratatop.StrataWays'. -/
def strataWaysUptoCard : Claim7 := { stood := { row := strataWaysUptoRow, standIns := [], harness := (true, "f94aa62ce42e0d1cf6828b76d11c6f98365e449bafdf45440dbbb55ba12f2727"), looks := true }, kinds := [], alts := [], laidByText := true, laidKinds := [.handle], laidTests := true, laidLooks := .later }
def StrataWaysUptoCardSaid : Prop := Claim7.holds Tryz.pinned (.plain (OpenSpec.upto strataWaysSpec)) strataWaysUptoCard
end Rows
end Go.Proofs.YtpnngdandpncdaaGreatDoor
