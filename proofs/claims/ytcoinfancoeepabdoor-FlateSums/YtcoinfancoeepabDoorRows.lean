/-
  NARROWER THAN 'FOR EVERY INPUT', by the rows' own cells (each row's printed sentence says how): FlateCut: laid · FlateSmall: laid · FlateSums: laid · FlateTells: laid.
  DERIVED. THE GIVEN ROWS OF THIS SEAT. 4 by the template 'for every input the law returns true; each argument reads behind the call as it read before'; 0 by the template 'total and deterministic' (their statements: YtcoinfancoeepabDoorTotals.lean).
  GIVEN WITH THE SEED: the statements are not yours to turn. If you find one false, say at which input.
  Laid BY PROGRAM, IN A SANDBOX (cutbox-rows.mjs): the forced cells as the released guide's own fill.sh prints them over the translation af5790b50227c297… (all of the seat's roots in one cut). By AI agents, Wed Nov 11 2026. No macro, syntax, notation, axiom, sorry.
-/
import Derived.Test.YtcoinfancoeepabDoorChecked
import GoSem.Claim
import GoSem.ClaimJoined
import GoSem.ClaimMapViews
import Derived.JoinedTies
import Derived.KernelRfl
namespace Go.Proofs.YtcoinfancoeepabDoor
/- THE CELL 'sum', in the pinned program and in every row, IS THE sha256 OF THE DUMP (.gsa) THAT YtcoinfancoeepabDoorProg.lean LOADS. Nothing in Lean hashes anything: it is a label: what it is worth is what the hold of that sum in a sandbox is worth. -/
noncomputable def Tryd.pinned : Pinned := { name := "ytcoinfancoeepabdoor", sum := "af5790b50227c29759d8b402c6073281ca2f5047cc3b5133b52ff3d166577743", checked := Tryd.checked }
namespace Rows
def none {H : Type} : Left H := { results := [], args := [] }

/- WHAT THE LISTED PACKAGE-LEVEL VARIABLES READ AS WHEN THE CALL BEGINS. Each datum BY PROGRAM (the guide's laid-datum.mjs) off the statement by which the dump's own 'gosem.cut.vars' lays the variable. In a bare row this is a premise. The card (YtcoinfancoeepabDoorCards.lean) ties it to the program's text. -/
def laid_errors_errorType {H : Type} : DataW H := .iface "internal/reflectlite.rtype" (.agg [.ptr (.lit (.string [101, 114, 114, 111, 114]))])
def laid_strata_flate_lengthSpans {H : Type} : DataW H := .agg [.agg [.lit (.int .i64 3), .lit (.int .i64 0)], .agg [.lit (.int .i64 4), .lit (.int .i64 0)], .agg [.lit (.int .i64 5), .lit (.int .i64 0)], .agg [.lit (.int .i64 6), .lit (.int .i64 0)], .agg [.lit (.int .i64 7), .lit (.int .i64 0)], .agg [.lit (.int .i64 8), .lit (.int .i64 0)], .agg [.lit (.int .i64 9), .lit (.int .i64 0)], .agg [.lit (.int .i64 10), .lit (.int .i64 0)], .agg [.lit (.int .i64 11), .lit (.int .i64 1)], .agg [.lit (.int .i64 13), .lit (.int .i64 1)], .agg [.lit (.int .i64 15), .lit (.int .i64 1)], .agg [.lit (.int .i64 17), .lit (.int .i64 1)], .agg [.lit (.int .i64 19), .lit (.int .i64 2)], .agg [.lit (.int .i64 23), .lit (.int .i64 2)], .agg [.lit (.int .i64 27), .lit (.int .i64 2)], .agg [.lit (.int .i64 31), .lit (.int .i64 2)], .agg [.lit (.int .i64 35), .lit (.int .i64 3)], .agg [.lit (.int .i64 43), .lit (.int .i64 3)], .agg [.lit (.int .i64 51), .lit (.int .i64 3)], .agg [.lit (.int .i64 59), .lit (.int .i64 3)], .agg [.lit (.int .i64 67), .lit (.int .i64 4)], .agg [.lit (.int .i64 83), .lit (.int .i64 4)], .agg [.lit (.int .i64 99), .lit (.int .i64 4)], .agg [.lit (.int .i64 115), .lit (.int .i64 4)], .agg [.lit (.int .i64 131), .lit (.int .i64 5)], .agg [.lit (.int .i64 163), .lit (.int .i64 5)], .agg [.lit (.int .i64 195), .lit (.int .i64 5)], .agg [.lit (.int .i64 227), .lit (.int .i64 5)], .agg [.lit (.int .i64 258), .lit (.int .i64 0)]]
def laid_strata_flate_distanceSpans {H : Type} : DataW H := .agg [.agg [.lit (.int .i64 1), .lit (.int .i64 0)], .agg [.lit (.int .i64 2), .lit (.int .i64 0)], .agg [.lit (.int .i64 3), .lit (.int .i64 0)], .agg [.lit (.int .i64 4), .lit (.int .i64 0)], .agg [.lit (.int .i64 5), .lit (.int .i64 1)], .agg [.lit (.int .i64 7), .lit (.int .i64 1)], .agg [.lit (.int .i64 9), .lit (.int .i64 2)], .agg [.lit (.int .i64 13), .lit (.int .i64 2)], .agg [.lit (.int .i64 17), .lit (.int .i64 3)], .agg [.lit (.int .i64 25), .lit (.int .i64 3)], .agg [.lit (.int .i64 33), .lit (.int .i64 4)], .agg [.lit (.int .i64 49), .lit (.int .i64 4)], .agg [.lit (.int .i64 65), .lit (.int .i64 5)], .agg [.lit (.int .i64 97), .lit (.int .i64 5)], .agg [.lit (.int .i64 129), .lit (.int .i64 6)], .agg [.lit (.int .i64 193), .lit (.int .i64 6)], .agg [.lit (.int .i64 257), .lit (.int .i64 7)], .agg [.lit (.int .i64 385), .lit (.int .i64 7)], .agg [.lit (.int .i64 513), .lit (.int .i64 8)], .agg [.lit (.int .i64 769), .lit (.int .i64 8)], .agg [.lit (.int .i64 1025), .lit (.int .i64 9)], .agg [.lit (.int .i64 1537), .lit (.int .i64 9)], .agg [.lit (.int .i64 2049), .lit (.int .i64 10)], .agg [.lit (.int .i64 3073), .lit (.int .i64 10)], .agg [.lit (.int .i64 4097), .lit (.int .i64 11)], .agg [.lit (.int .i64 6145), .lit (.int .i64 11)], .agg [.lit (.int .i64 8193), .lit (.int .i64 12)], .agg [.lit (.int .i64 12289), .lit (.int .i64 12)], .agg [.lit (.int .i64 16385), .lit (.int .i64 13)], .agg [.lit (.int .i64 24577), .lit (.int .i64 13)]]
def laid_strata_flate_crcSteps {H : Type} : DataW H := .agg [.lit (.int .u32 0), .lit (.int .u32 498536548), .lit (.int .u32 997073096), .lit (.int .u32 651767980), .lit (.int .u32 1994146192), .lit (.int .u32 1802195444), .lit (.int .u32 1303535960), .lit (.int .u32 1342533948), .lit (.int .u32 3988292384), .lit (.int .u32 4027552580), .lit (.int .u32 3604390888), .lit (.int .u32 3412177804), .lit (.int .u32 2607071920), .lit (.int .u32 2262029012), .lit (.int .u32 2685067896), .lit (.int .u32 3183342108)]
def laid_strata_flate_sizeOrder {H : Type} : DataW H := .agg [.lit (.int .i64 16), .lit (.int .i64 17), .lit (.int .i64 18), .lit (.int .i64 0), .lit (.int .i64 8), .lit (.int .i64 7), .lit (.int .i64 9), .lit (.int .i64 6), .lit (.int .i64 10), .lit (.int .i64 5), .lit (.int .i64 11), .lit (.int .i64 4), .lit (.int .i64 12), .lit (.int .i64 3), .lit (.int .i64 13), .lit (.int .i64 2), .lit (.int .i64 14), .lit (.int .i64 1), .lit (.int .i64 15)]
def laid_strata_flate_repeatSpans {H : Type} : DataW H := .agg [.agg [.lit (.int .i64 3), .lit (.int .i64 2)], .agg [.lit (.int .i64 3), .lit (.int .i64 3)], .agg [.lit (.int .i64 11), .lit (.int .i64 7)]]

/-- 'stratalaw06.FlateCut': WHATEVER THE INPUT: true; the input reads as it did. -/
def flateCutSpec : ChangeSpec := { name := "flateCut", fn := fun _ => fun
  | [d1, d2] => { results := [.lit (.bool true)], args := [d1, d2] }
  | _ => none }
def flateCutRow : OpenClaim := { program := "ytcoinfancoeepabdoor", sum := "af5790b50227c29759d8b402c6073281ca2f5047cc3b5133b52ff3d166577743", func := "strata/stratalaw06.FlateCut", spec := "flateCut", inPlace := ["internal/abi.NoEscape", "internal/bytealg.MakeNoZero", "internal/bytealg.IndexByteString", "internal/reflectlite.TypeOf", "internal/reflectlite.ValueOf", "(internal/reflectlite.Value).Type", "(internal/reflectlite.Value).IsNil", "(internal/reflectlite.Value).Elem", "(internal/reflectlite.Value).Set"], unfollowed := true, recurses := true, named := ["strata/flate.lengthSpans", "strata/flate.distanceSpans", "strata/flate.crcSteps", "strata/flate.sizeOrder", "strata/flate.repeatSpans", "errors.errorType"], apart := false, laid := [("errors.errorType", laid_errors_errorType), ("strata/flate.lengthSpans", laid_strata_flate_lengthSpans), ("strata/flate.distanceSpans", laid_strata_flate_distanceSpans), ("strata/flate.crcSteps", laid_strata_flate_crcSteps), ("strata/flate.sizeOrder", laid_strata_flate_sizeOrder), ("strata/flate.repeatSpans", laid_strata_flate_repeatSpans)] }
def FlateCutSaid : Prop := flateCutRow.holds Tryd.pinned (OpenSpec.ofChange flateCutSpec)

/-- ITS FALSE NEIGHBOUR: 'it returns false'. Refute it at one input. -/
def flateCutWrong : ChangeSpec := { name := "flateCut", fn := fun _ => fun
  | [d1, d2] => { results := [.lit (.bool false)], args := [d1, d2] }
  | _ => none }
def FlateCutWrongFalsely : Prop := flateCutRow.holds Tryd.pinned (OpenSpec.ofChange flateCutWrong)

/-- 'stratalaw06.FlateSmall': WHATEVER THE INPUT: true; the input reads as it did. -/
def flateSmallSpec : ChangeSpec := { name := "flateSmall", fn := fun _ => fun
  | [d1, d2] => { results := [.lit (.bool true)], args := [d1, d2] }
  | _ => none }
def flateSmallRow : OpenClaim := { program := "ytcoinfancoeepabdoor", sum := "af5790b50227c29759d8b402c6073281ca2f5047cc3b5133b52ff3d166577743", func := "strata/stratalaw06.FlateSmall", spec := "flateSmall", inPlace := ["internal/abi.NoEscape", "internal/bytealg.MakeNoZero", "internal/bytealg.IndexByteString"], unfollowed := true, recurses := true, named := ["strata/flate.lengthSpans", "strata/flate.distanceSpans", "strata/flate.sizeOrder", "strata/flate.repeatSpans", "strata/flate.crcSteps"], apart := false, laid := [("strata/flate.lengthSpans", laid_strata_flate_lengthSpans), ("strata/flate.distanceSpans", laid_strata_flate_distanceSpans), ("strata/flate.crcSteps", laid_strata_flate_crcSteps), ("strata/flate.sizeOrder", laid_strata_flate_sizeOrder), ("strata/flate.repeatSpans", laid_strata_flate_repeatSpans)] }
def FlateSmallSaid : Prop := flateSmallRow.holds Tryd.pinned (OpenSpec.ofChange flateSmallSpec)

/-- ITS FALSE NEIGHBOUR: 'it returns false'. Refute it at one input. -/
def flateSmallWrong : ChangeSpec := { name := "flateSmall", fn := fun _ => fun
  | [d1, d2] => { results := [.lit (.bool false)], args := [d1, d2] }
  | _ => none }
def FlateSmallWrongFalsely : Prop := flateSmallRow.holds Tryd.pinned (OpenSpec.ofChange flateSmallWrong)

/-- 'stratalaw06.FlateSums': WHATEVER THE INPUT: true; the input reads as it did. -/
def flateSumsSpec : ChangeSpec := { name := "flateSums", fn := fun _ => fun
  | [d1, d2, d3] => { results := [.lit (.bool true)], args := [d1, d2, d3] }
  | _ => none }
def flateSumsRow : OpenClaim := { program := "ytcoinfancoeepabdoor", sum := "af5790b50227c29759d8b402c6073281ca2f5047cc3b5133b52ff3d166577743", func := "strata/stratalaw06.FlateSums", spec := "flateSums", inPlace := ["internal/bytealg.IndexByteString", "internal/abi.NoEscape", "internal/bytealg.MakeNoZero"], unfollowed := true, recurses := true, named := ["strata/flate.crcSteps", "strata/flate.lengthSpans", "strata/flate.distanceSpans", "strata/flate.sizeOrder", "strata/flate.repeatSpans"], apart := false, laid := [("strata/flate.lengthSpans", laid_strata_flate_lengthSpans), ("strata/flate.distanceSpans", laid_strata_flate_distanceSpans), ("strata/flate.crcSteps", laid_strata_flate_crcSteps), ("strata/flate.sizeOrder", laid_strata_flate_sizeOrder), ("strata/flate.repeatSpans", laid_strata_flate_repeatSpans)] }
def FlateSumsSaid : Prop := flateSumsRow.holds Tryd.pinned (OpenSpec.ofChange flateSumsSpec)

/-- ITS FALSE NEIGHBOUR: 'it returns false'. Refute it at one input. -/
def flateSumsWrong : ChangeSpec := { name := "flateSums", fn := fun _ => fun
  | [d1, d2, d3] => { results := [.lit (.bool false)], args := [d1, d2, d3] }
  | _ => none }
def FlateSumsWrongFalsely : Prop := flateSumsRow.holds Tryd.pinned (OpenSpec.ofChange flateSumsWrong)

/-- 'stratalaw06.FlateTells': WHATEVER THE INPUT: true; the input reads as it did. -/
def flateTellsSpec : ChangeSpec := { name := "flateTells", fn := fun _ => fun
  | [d1, d2, d3] => { results := [.lit (.bool true)], args := [d1, d2, d3] }
  | _ => none }
def flateTellsRow : OpenClaim := { program := "ytcoinfancoeepabdoor", sum := "af5790b50227c29759d8b402c6073281ca2f5047cc3b5133b52ff3d166577743", func := "strata/stratalaw06.FlateTells", spec := "flateTells", inPlace := ["internal/abi.NoEscape", "internal/bytealg.MakeNoZero", "internal/bytealg.IndexByteString", "internal/reflectlite.TypeOf", "internal/reflectlite.ValueOf", "(internal/reflectlite.Value).Type", "(internal/reflectlite.Value).IsNil", "(internal/reflectlite.Value).Elem", "(internal/reflectlite.Value).Set"], unfollowed := true, recurses := true, named := ["strata/flate.crcSteps", "strata/flate.lengthSpans", "strata/flate.distanceSpans", "strata/flate.sizeOrder", "strata/flate.repeatSpans", "errors.errorType"], apart := false, laid := [("errors.errorType", laid_errors_errorType), ("strata/flate.lengthSpans", laid_strata_flate_lengthSpans), ("strata/flate.distanceSpans", laid_strata_flate_distanceSpans), ("strata/flate.crcSteps", laid_strata_flate_crcSteps), ("strata/flate.sizeOrder", laid_strata_flate_sizeOrder), ("strata/flate.repeatSpans", laid_strata_flate_repeatSpans)] }
def FlateTellsSaid : Prop := flateTellsRow.holds Tryd.pinned (OpenSpec.ofChange flateTellsSpec)

/-- ITS FALSE NEIGHBOUR: 'it returns false'. Refute it at one input. -/
def flateTellsWrong : ChangeSpec := { name := "flateTells", fn := fun _ => fun
  | [d1, d2, d3] => { results := [.lit (.bool false)], args := [d1, d2, d3] }
  | _ => none }
def FlateTellsWrongFalsely : Prop := flateTellsRow.holds Tryd.pinned (OpenSpec.ofChange flateTellsWrong)

/- THE SECOND FORM. 'bulk': how many values and letters a reading holds, each counted each time it is reached (what is shared counts as often as it is met; a slice's spare places count too). A statement '..UptoSaid' is the law's where the arguments, and the package variables that the reading takes, are together of bulk at most 1048576: NARROWER than '..Said'. Prove '..Said' where nothing that the law and all that it calls make is longer than what came in: it says more and counts as full. Else prove '..UptoSaid'. A law counts once. -/
mutual
def uptoBulk {H : Type} : DataW H → Nat
  | .lit (.string bytes) => bytes.length + 1
  | .lit _ => 1
  | .nil => 1
  | .ptr d => uptoBulk d + 1
  | .slice elems spare => uptoBulkAll elems + uptoBulkAll spare + 1
  | .agg parts => uptoBulkAll parts + 1
  | .iface _ d => uptoBulk d + 1
  | .map entries => uptoBulkEntries entries + 1
  | .held _ => 1
def uptoBulkAll {H : Type} : List (DataW H) → Nat
  | [] => 0
  | d :: r => uptoBulk d + uptoBulkAll r
def uptoBulkEntries {H : Type} : List (Lit × DataW H) → Nat
  | [] => 0
  | x :: r => uptoBulkEntry x + uptoBulkEntries r
def uptoBulkEntry {H : Type} : Lit × DataW H → Nat
  | (.string bytes, d) => bytes.length + uptoBulk d + 1
  | (_, d) => uptoBulk d + 1
 end
def uptoSmall : (H : Type) → List (DataW H) → Bool := fun _ ds => decide (uptoBulkAll ds ≤ 1048576)
def OpenSpec.upto (s : _root_.Go.ChangeSpec) : _root_.Go.OpenSpec := { _root_.Go.OpenSpec.ofChange s with cond := some uptoSmall }

/-- 'stratalaw06.FlateCut', WHERE WHAT IT READS IS OF BULK AT MOST 1048576: true; the input reads as it did. -/
def flateCutUptoRow : OpenClaim := { program := "ytcoinfancoeepabdoor", sum := "af5790b50227c29759d8b402c6073281ca2f5047cc3b5133b52ff3d166577743", func := "strata/stratalaw06.FlateCut", spec := "flateCut", inPlace := ["internal/abi.NoEscape", "internal/bytealg.MakeNoZero", "internal/bytealg.IndexByteString", "internal/reflectlite.TypeOf", "internal/reflectlite.ValueOf", "(internal/reflectlite.Value).Type", "(internal/reflectlite.Value).IsNil", "(internal/reflectlite.Value).Elem", "(internal/reflectlite.Value).Set"], unfollowed := true, recurses := true, named := ["strata/flate.lengthSpans", "strata/flate.distanceSpans", "strata/flate.crcSteps", "strata/flate.sizeOrder", "strata/flate.repeatSpans", "errors.errorType"], apart := false, laid := [("errors.errorType", laid_errors_errorType), ("strata/flate.lengthSpans", laid_strata_flate_lengthSpans), ("strata/flate.distanceSpans", laid_strata_flate_distanceSpans), ("strata/flate.crcSteps", laid_strata_flate_crcSteps), ("strata/flate.sizeOrder", laid_strata_flate_sizeOrder), ("strata/flate.repeatSpans", laid_strata_flate_repeatSpans)], narrowed := true }
def FlateCutUptoSaid : Prop := flateCutUptoRow.holds Tryd.pinned (OpenSpec.upto flateCutSpec)

/-- 'stratalaw06.FlateSmall', WHERE WHAT IT READS IS OF BULK AT MOST 1048576: true; the input reads as it did. -/
def flateSmallUptoRow : OpenClaim := { program := "ytcoinfancoeepabdoor", sum := "af5790b50227c29759d8b402c6073281ca2f5047cc3b5133b52ff3d166577743", func := "strata/stratalaw06.FlateSmall", spec := "flateSmall", inPlace := ["internal/abi.NoEscape", "internal/bytealg.MakeNoZero", "internal/bytealg.IndexByteString"], unfollowed := true, recurses := true, named := ["strata/flate.lengthSpans", "strata/flate.distanceSpans", "strata/flate.sizeOrder", "strata/flate.repeatSpans", "strata/flate.crcSteps"], apart := false, laid := [("strata/flate.lengthSpans", laid_strata_flate_lengthSpans), ("strata/flate.distanceSpans", laid_strata_flate_distanceSpans), ("strata/flate.crcSteps", laid_strata_flate_crcSteps), ("strata/flate.sizeOrder", laid_strata_flate_sizeOrder), ("strata/flate.repeatSpans", laid_strata_flate_repeatSpans)], narrowed := true }
def FlateSmallUptoSaid : Prop := flateSmallUptoRow.holds Tryd.pinned (OpenSpec.upto flateSmallSpec)

/-- 'stratalaw06.FlateSums', WHERE WHAT IT READS IS OF BULK AT MOST 1048576: true; the input reads as it did. -/
def flateSumsUptoRow : OpenClaim := { program := "ytcoinfancoeepabdoor", sum := "af5790b50227c29759d8b402c6073281ca2f5047cc3b5133b52ff3d166577743", func := "strata/stratalaw06.FlateSums", spec := "flateSums", inPlace := ["internal/bytealg.IndexByteString", "internal/abi.NoEscape", "internal/bytealg.MakeNoZero"], unfollowed := true, recurses := true, named := ["strata/flate.crcSteps", "strata/flate.lengthSpans", "strata/flate.distanceSpans", "strata/flate.sizeOrder", "strata/flate.repeatSpans"], apart := false, laid := [("strata/flate.lengthSpans", laid_strata_flate_lengthSpans), ("strata/flate.distanceSpans", laid_strata_flate_distanceSpans), ("strata/flate.crcSteps", laid_strata_flate_crcSteps), ("strata/flate.sizeOrder", laid_strata_flate_sizeOrder), ("strata/flate.repeatSpans", laid_strata_flate_repeatSpans)], narrowed := true }
def FlateSumsUptoSaid : Prop := flateSumsUptoRow.holds Tryd.pinned (OpenSpec.upto flateSumsSpec)

/-- 'stratalaw06.FlateTells', WHERE WHAT IT READS IS OF BULK AT MOST 1048576: true; the input reads as it did. -/
def flateTellsUptoRow : OpenClaim := { program := "ytcoinfancoeepabdoor", sum := "af5790b50227c29759d8b402c6073281ca2f5047cc3b5133b52ff3d166577743", func := "strata/stratalaw06.FlateTells", spec := "flateTells", inPlace := ["internal/abi.NoEscape", "internal/bytealg.MakeNoZero", "internal/bytealg.IndexByteString", "internal/reflectlite.TypeOf", "internal/reflectlite.ValueOf", "(internal/reflectlite.Value).Type", "(internal/reflectlite.Value).IsNil", "(internal/reflectlite.Value).Elem", "(internal/reflectlite.Value).Set"], unfollowed := true, recurses := true, named := ["strata/flate.crcSteps", "strata/flate.lengthSpans", "strata/flate.distanceSpans", "strata/flate.sizeOrder", "strata/flate.repeatSpans", "errors.errorType"], apart := false, laid := [("errors.errorType", laid_errors_errorType), ("strata/flate.lengthSpans", laid_strata_flate_lengthSpans), ("strata/flate.distanceSpans", laid_strata_flate_distanceSpans), ("strata/flate.crcSteps", laid_strata_flate_crcSteps), ("strata/flate.sizeOrder", laid_strata_flate_sizeOrder), ("strata/flate.repeatSpans", laid_strata_flate_repeatSpans)], narrowed := true }
def FlateTellsUptoSaid : Prop := flateTellsUptoRow.holds Tryd.pinned (OpenSpec.upto flateTellsSpec)

end Rows
end Go.Proofs.YtcoinfancoeepabDoor
