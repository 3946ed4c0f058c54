/-
  DERIVED. GIVEN WITH THE SEED: THE CARDS: each row of YtkaegdmkpjmfeaaGreatDoorRows.lean that lists a variable, with what it lists TIED to the program's text (the seventh form; the later family's looks); each row that meets fmt, with fmt's text TOLD by the authors' own Lean function (tested against real Go, not proved from fmt's source: count such statements apart). THE CARD IS WHAT COUNTS. Prove the row's statement (the work); the ties are given (YtkaegdmkpjmfeaaGreatDoorTie.lean); close each card by the builder's one call (the guide's Derived/Test/ToyasCard.lean, 'card_holds'). Laid BY PROGRAM, IN A SANDBOX (cutbox-door.mjs). By AI agents, Wed Nov 11 2026. No macro, syntax, notation, axiom, sorry.
-/
import Derived.Test.YtkaegdmkpjmfeaaGreatDoorRows
import GoSem.ClaimSeven
namespace Go.Proofs.YtkaegdmkpjmfeaaGreatDoor
namespace Rows

/-- THE TIED CARD OF 'stratalaw08.ResolveFind'. -/
def resolveFindCard : Claim7 := { stood := { row := resolveFindRow, standIns := [], harness := (true, "e7436b1ac43d893f4328679c33511e09b6170b811f40b33c7c7f7c16ad2ea188"), looks := true }, kinds := [], alts := [], laidByText := true, laidKinds := [.handle], laidTests := true, laidLooks := .later }
def ResolveFindCardSaid : Prop := Claim7.holds Tryz.pinned (.plain (OpenSpec.ofChange resolveFindSpec)) resolveFindCard

/-- THE TIED CARD OF 'stratalaw08.ResolveTrail'. -/
def resolveTrailCard : Claim7 := { stood := { row := resolveTrailRow, standIns := [], harness := (true, "e7436b1ac43d893f4328679c33511e09b6170b811f40b33c7c7f7c16ad2ea188"), looks := true }, kinds := [], alts := [], laidByText := true, laidKinds := [.handle], laidTests := true, laidLooks := .later }
def ResolveTrailCardSaid : Prop := Claim7.holds Tryz.pinned (.plain (OpenSpec.ofChange resolveTrailSpec)) resolveTrailCard

/-- THE TIED CARD OF 'stratalaw08.ResolvePlays'. -/
def resolvePlaysCard : Claim7 := { stood := { row := resolvePlaysRow, standIns := [], harness := (true, "e7436b1ac43d893f4328679c33511e09b6170b811f40b33c7c7f7c16ad2ea188"), looks := true }, kinds := [], alts := [], laidByText := true, laidKinds := [.handle], laidTests := true, laidLooks := .later }
def ResolvePlaysCardSaid : Prop := Claim7.holds Tryz.pinned (.plain (OpenSpec.ofChange resolvePlaysSpec)) resolvePlaysCard

/-- THE TIED CARD OF 'stratalaw08.ResolveKnown'. -/
def resolveKnownCard : Claim7 := { stood := { row := resolveKnownRow, standIns := [], harness := (true, "e7436b1ac43d893f4328679c33511e09b6170b811f40b33c7c7f7c16ad2ea188"), looks := true }, kinds := [], alts := [], laidByText := true, laidKinds := [.handle], laidTests := true, laidLooks := .later }
def ResolveKnownCardSaid : Prop := Claim7.holds Tryz.pinned (.plain (OpenSpec.ofChange resolveKnownSpec)) resolveKnownCard

/-- THE TIED CARD OF 'stratalaw08.ResolveInside'. -/
def resolveInsideCard : Claim7 := { stood := { row := resolveInsideRow, standIns := [], harness := (true, "e7436b1ac43d893f4328679c33511e09b6170b811f40b33c7c7f7c16ad2ea188"), looks := true }, kinds := [], alts := [], laidByText := true, laidKinds := [.handle], laidTests := true, laidLooks := .later }
def ResolveInsideCardSaid : Prop := Claim7.holds Tryz.pinned (.plain (OpenSpec.ofChange resolveInsideSpec)) resolveInsideCard

/-- THE TIED CARD OF 'stratalaw08.ResolveMakes'. -/
def resolveMakesCard : Claim7 := { stood := { row := resolveMakesRow, standIns := [], harness := (true, "e7436b1ac43d893f4328679c33511e09b6170b811f40b33c7c7f7c16ad2ea188"), looks := true }, kinds := [], alts := [], laidByText := true, laidKinds := [.handle], laidTests := true, laidLooks := .later }
def ResolveMakesCardSaid : Prop := Claim7.holds Tryz.pinned (.plain (OpenSpec.ofChange resolveMakesSpec)) resolveMakesCard

/-- THE SECOND FORM's CARD OF 'stratalaw08.ResolveFind'. -/
def resolveFindUptoCard : Claim7 := { stood := { row := resolveFindUptoRow, standIns := [], harness := (true, "e7436b1ac43d893f4328679c33511e09b6170b811f40b33c7c7f7c16ad2ea188"), looks := true }, kinds := [], alts := [], laidByText := true, laidKinds := [.handle], laidTests := true, laidLooks := .later }
def ResolveFindUptoCardSaid : Prop := Claim7.holds Tryz.pinned (.plain (OpenSpec.upto resolveFindSpec)) resolveFindUptoCard

/-- THE SECOND FORM's CARD OF 'stratalaw08.ResolveTrail'. -/
def resolveTrailUptoCard : Claim7 := { stood := { row := resolveTrailUptoRow, standIns := [], harness := (true, "e7436b1ac43d893f4328679c33511e09b6170b811f40b33c7c7f7c16ad2ea188"), looks := true }, kinds := [], alts := [], laidByText := true, laidKinds := [.handle], laidTests := true, laidLooks := .later }
def ResolveTrailUptoCardSaid : Prop := Claim7.holds Tryz.pinned (.plain (OpenSpec.upto resolveTrailSpec)) resolveTrailUptoCard

/-- THE SECOND FORM's CARD OF 'stratalaw08.ResolvePlays'. -/
def resolvePlaysUptoCard : Claim7 := { stood := { row := resolvePlaysUptoRow, standIns := [], harness := (true, "e7436b1ac43d893f4328679c33511e09b6170b811f40b33c7c7f7c16ad2ea188"), looks := true }, kinds := [], alts := [], laidByText := true, laidKinds := [.handle], laidTests := true, laidLooks := .later }
def ResolvePlaysUptoCardSaid : Prop := Claim7.holds Tryz.pinned (.plain (OpenSpec.upto resolvePlaysSpec)) resolvePlaysUptoCard

/-- THE SECOND FORM's CARD OF 'stratalaw08.ResolveKnown'. -/
def resolveKnownUptoCard : Claim7 := { stood := { row := resolveKnownUptoRow, standIns := [], harness := (true, "e7436b1ac43d893f4328679c33511e09b6170b811f40b33c7c7f7c16ad2ea188"), looks := true }, kinds := [], alts := [], laidByText := true, laidKinds := [.handle], laidTests := true, laidLooks := .later }
def ResolveKnownUptoCardSaid : Prop := Claim7.holds Tryz.pinned (.plain (OpenSpec.upto resolveKnownSpec)) resolveKnownUptoCard

/-- THE SECOND FORM's CARD OF 'stratalaw08.ResolveInside'. -/
def resolveInsideUptoCard : Claim7 := { stood := { row := resolveInsideUptoRow, standIns := [], harness := (true, "e7436b1ac43d893f4328679c33511e09b6170b811f40b33c7c7f7c16ad2ea188"), looks := true }, kinds := [], alts := [], laidByText := true, laidKinds := [.handle], laidTests := true, laidLooks := .later }
def ResolveInsideUptoCardSaid : Prop := Claim7.holds Tryz.pinned (.plain (OpenSpec.upto resolveInsideSpec)) resolveInsideUptoCard

/-- THE SECOND FORM's CARD OF 'stratalaw08.ResolveMakes'. -/
def resolveMakesUptoCard : Claim7 := { stood := { row := resolveMakesUptoRow, standIns := [], harness := (true, "e7436b1ac43d893f4328679c33511e09b6170b811f40b33c7c7f7c16ad2ea188"), looks := true }, kinds := [], alts := [], laidByText := true, laidKinds := [.handle], laidTests := true, laidLooks := .later }
def ResolveMakesUptoCardSaid : Prop := Claim7.holds Tryz.pinned (.plain (OpenSpec.upto resolveMakesSpec)) resolveMakesUptoCard
end Rows
end Go.Proofs.YtkaegdmkpjmfeaaGreatDoor
