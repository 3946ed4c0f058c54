/- What the rows of layer 2 list that reach the tables of UTF-8 too, as a walk reads it; and a world in which it stands. -/
import Derived.Test.YthkbhcefckbcnaaGreatDoorRows
import Derived.Test.YthkbhcefckbcnaaGreatDoorPlain
import Derived.LaidHandle
import Derived.LaidLaws
import Derived.Stop.Joined
import Derived.Lib.LaidTab
import Derived.SliceStrings
import Derived.Laws.Tables
namespace Go.Proofs.YthkbhcefckbcnaaGreatDoor
open Go.ChangeShapes Go.WideShapes Go.RowKit

theorem own : ownKnob Tryz.prog.godebug = none := by kernel_rfl
theorem l_et : Tryz.prog.globalNamed "errors.errorType" = some 0 := by kernel_rfl
theorem l_rt : (Tryz.prog.cutTypes.find? (·.1 == "internal/reflectlite.rtype")).map (·.2) = some 140 := by kernel_rfl
theorem l_oneRow : ((List.range 249).filter fun t => Tryz.prog.rowNamed t [101, 114, 114, 111, 114]) = [28] := by kernel_rfl
theorem l_size : Tryz.prog.types.size = 249 := by kernel_rfl

abbrev listedU : List (String × DataW Unit) := [("unicode/utf8.acceptRanges", Rows.laid_unicode_utf8_acceptRanges), ("errors.errorType", Rows.laid_errors_errorType), ("unicode/utf8.first", Rows.laid_unicode_utf8_first)]
set_option maxRecDepth 100000 in
theorem handle_of_laidU {W : World} (h : laidMetH Tryz.prog listedU W) : ErrType W := by
  have h2 : laidMet Tryz.prog [("unicode/utf8.acceptRanges", Rows.laid_unicode_utf8_acceptRanges), ("unicode/utf8.first", Rows.laid_unicode_utf8_first)] W ∧ handlesMet Tryz.prog [("errors.errorType", Rows.laid_errors_errorType)] W := h
  obtain ⟨name, u, ty, e1, e2, e3, e4, e5⟩ := h2.2 _ (List.mem_singleton.2 rfl)
  have en : name = [101, 114, 114, 111, 114] := (Option.some.inj e1).symm
  subst en
  obtain rfl := Option.some.inj (l_rt.symm.trans e2)
  have hm : ty ∈ (List.range 249).filter fun t => Tryz.prog.rowNamed t [101, 114, 114, 111, 114] := List.mem_filter.2 ⟨List.mem_range.2 (by rw [← l_size]; exact e3), e4⟩
  rw [l_oneRow] at hm
  obtain rfl := List.mem_singleton.1 hm
  have hh : typeHandle Tryz.prog 28 = .pointer (some ⟨4, 28, none⟩) := by kernel_rfl
  rw [hh] at e5
  have h3 := World.var?_cell l_et e5 0
  unfold ErrType
  simpa using h3
def numsOf : DataW Unit → List Value
  | .lit (.int k n) => [.int k n]
  | .agg ds => ds.flatMap fun
    | .lit (.int k n) => [Value.int k n]
    | .agg es => es.map fun
      | .lit (.int k n) => Value.int k n
      | _ => .int .i64 0
    | _ => []
  | _ => []
noncomputable def laidWorldU (os : Os) : World :=
  (((World.holding Tryz.prog os ⟨#[], #[], []⟩).setRow 3 (numsOf Rows.laid_unicode_utf8_acceptRanges).toArray).setRow 2 (numsOf Rows.laid_unicode_utf8_first).toArray).setRow 0 #[.iface 140 (.agg #[.pointer (some ⟨4, 28, none⟩)])]
end Go.Proofs.YthkbhcefckbcnaaGreatDoor
