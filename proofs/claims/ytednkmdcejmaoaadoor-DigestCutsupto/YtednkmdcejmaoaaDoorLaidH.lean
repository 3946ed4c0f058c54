/- What the rows of layer 3 list that reach the errors too. -/
import Derived.Test.YtednkmdcejmaoaaDoorLaid4
import Derived.Test.YtednkmdcejmaoaaDoorPlain
import Derived.Test.YtednkmdcejmaoaaDoorLay3
namespace Go.Proofs.YtednkmdcejmaoaaDoor
open Go.ChangeShapes Go.WideShapes Go.RowKit

theorem l_et : Tryd.prog.globalNamed "errors.errorType" = some 0 := by kernel_rfl
theorem l_rt : (Tryd.prog.cutTypes.find? (·.1 == "internal/reflectlite.rtype")).map (·.2) = some 112 := by kernel_rfl
theorem l_oneRow : ((List.range 168).filter fun t => Tryd.prog.rowNamed t [101, 114, 114, 111, 114]) = [26] := by kernel_rfl
theorem l_size : Tryd.prog.types.size = 168 := by kernel_rfl

abbrev listedH : List (String × DataW Unit) := [("math/bits.deBruijn32tab", Rows.laid_math_bits_deBruijn32tab), ("math/bits.deBruijn64tab", Rows.laid_math_bits_deBruijn64tab), ("internal/strconv.uint64pow10", Rows.laid_internal_strconv_uint64pow10), ("errors.errorType", Rows.laid_errors_errorType), ("strata/digest.roundNumbers", Rows.laid_strata_digest_roundNumbers)]
set_option maxRecDepth 100000 in
theorem all_of_laid {W : World} (h : laidMetH Tryd.prog listedH W) : KTab W ∧ Pow10 W ∧ ErrType W := by
  have h2 : laidMet Tryd.prog [("math/bits.deBruijn32tab", Rows.laid_math_bits_deBruijn32tab), ("math/bits.deBruijn64tab", Rows.laid_math_bits_deBruijn64tab), ("internal/strconv.uint64pow10", Rows.laid_internal_strconv_uint64pow10), ("strata/digest.roundNumbers", Rows.laid_strata_digest_roundNumbers)] W ∧ handlesMet Tryd.prog [("errors.errorType", Rows.laid_errors_errorType)] W := h
  refine ⟨k_of_vars h2.1 (by simp), pow_of_vars h2.1 (by simp), ?_⟩
  obtain ⟨name, u, ty, e1, e2, e3, e4, e5⟩ := h2.2 _ (List.mem_singleton.2 rfl)
  have en : name = [101, 114, 114, 111, 114] := (Option.some.inj e1).symm
  subst en
  obtain rfl := Option.some.inj (l_rt.symm.trans e2)
  have hm : ty ∈ (List.range 168).filter fun t => Tryd.prog.rowNamed t [101, 114, 114, 111, 114] := List.mem_filter.2 ⟨List.mem_range.2 (by rw [← l_size]; exact e3), e4⟩
  rw [l_oneRow] at hm
  obtain rfl := List.mem_singleton.1 hm
  have hh : typeHandle Tryd.prog 26 = .pointer (some ⟨6, 26, none⟩) := by kernel_rfl
  rw [hh] at e5
  have h3 := World.var?_cell l_et e5 0
  unfold ErrType
  simpa using h3
noncomputable def laidWorldH (os : Os) : World := (laidWorld4 os).setRow 0 #[.iface 112 (.agg #[.pointer (some ⟨6, 26, none⟩)])]
end Go.Proofs.YtednkmdcejmaoaaDoor
