/- What the rows of layer 18 list, as a walk reads it; a world in which it stands. -/
import Derived.Test.YtbmakfdljddhcaaGreatDoorRows
import Derived.Test.YtbmakfdljddhcaaGreatDoorPlain
import Derived.LaidHandle
import Derived.LaidLaws
import Derived.Stop.Joined
import Derived.Lib.LaidTab
import Derived.Lib.LaidIn
namespace Go.Proofs.YtbmakfdljddhcaaGreatDoor
open Go.ChangeShapes Go.WideShapes Go.RowKit Go.Lib

theorem own : ownKnob Tryz.prog.godebug = none := by kernel_rfl
theorem l_et : Tryz.prog.globalNamed "errors.errorType" = some 0 := by kernel_rfl
theorem l_rt : (Tryz.prog.cutTypes.find? (·.1 == "internal/reflectlite.rtype")).map (·.2) = some 78 := by kernel_rfl
theorem l_oneRow : ((List.range 215).filter fun t => Tryz.prog.rowNamed t [101, 114, 114, 111, 114]) = [25] := by kernel_rfl
theorem l_size : Tryz.prog.types.size = 215 := by kernel_rfl

abbrev listedC : List (String × DataW Unit) := [("unicode/utf8.acceptRanges", Rows.laid_unicode_utf8_acceptRanges), ("errors.errorType", Rows.laid_errors_errorType), ("unicode/utf8.first", Rows.laid_unicode_utf8_first)]
abbrev listedN : List (String × DataW Unit) := [("unicode/utf8.acceptRanges", Rows.laid_unicode_utf8_acceptRanges), ("unicode/utf8.first", Rows.laid_unicode_utf8_first)]
theorem parts_of_laidC {W : World} (h : laidMetH Tryz.prog listedC W) : laidMet Tryz.prog listedN W ∧ handlesMet Tryz.prog [("errors.errorType", Rows.laid_errors_errorType)] W := h
set_option maxRecDepth 100000 in
theorem handle_of_laidC {W : World} (h : laidMetH Tryz.prog listedC W) : ErrType W := by
  have h2 := parts_of_laidC h
  obtain ⟨name, u, ty, e1, e2, e3, e4, e5⟩ := h2.2 _ (List.mem_singleton.2 rfl)
  have en : name = [101, 114, 114, 111, 114] := (Option.some.inj e1).symm
  subst en
  obtain rfl := Option.some.inj (l_rt.symm.trans e2)
  have hm : ty ∈ (List.range 215).filter fun t => Tryz.prog.rowNamed t [101, 114, 114, 111, 114] := List.mem_filter.2 ⟨List.mem_range.2 (by rw [← l_size]; exact e3), e4⟩
  rw [l_oneRow] at hm
  obtain rfl := List.mem_singleton.1 hm
  have hh : typeHandle Tryz.prog 25 = .pointer (some ⟨4, 25, none⟩) := by kernel_rfl
  rw [hh] at e5
  have h3 := World.var?_cell l_et e5 0
  unfold ErrType
  simpa using h3
def flatV : Nat → DataW Unit → List Value
  | _ + 1, .lit (.int k n) => [.int k n]
  | fu + 1, .agg ds => ds.flatMap (flatV fu)
  | fu + 1, .slice ds _ => ds.flatMap (flatV fu)
  | _, _ => []
noncomputable def laidWorldC (os : Os) : World :=
  (((World.holding Tryz.prog os ⟨#[], #[], []⟩).setRow 3 (flatV 5 Rows.laid_unicode_utf8_acceptRanges).toArray).setRow 2 (flatV 5 Rows.laid_unicode_utf8_first).toArray).setRow 0 #[.iface 78 (.agg #[.pointer (some ⟨4, 25, none⟩)])]
set_option maxRecDepth 100000 in
theorem metC (os : Os) (args : Array Value) : laidMetH Tryz.prog listedC ((laidWorldC os).forCall (fun _ _ => 0) ⟨#[], args, []⟩).memory := by
  have hA : LaidIn Tryz.prog ((laidWorldC os).forCall (fun _ _ => 0) ⟨#[], args, []⟩).memory [("unicode/utf8.acceptRanges", Rows.laid_unicode_utf8_acceptRanges), ("unicode/utf8.first", Rows.laid_unicode_utf8_first)] [3, 2] :=
    LaidIn.of_run _ 8 (by kernel_rfl) (by kernel_rfl) (by kernel_rfl) (by kernel_rfl)
  exact laidMetH_of_parts hA.met (by kernel_rfl)
end Go.Proofs.YtbmakfdljddhcaaGreatDoor
