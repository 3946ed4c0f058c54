/- What the rows of layer 3 list that reach the document's tables too, and a world in which it stands. -/
import Derived.Test.YtmohlmodaibbaaaDoorLaid4
import Derived.Test.YtmohlmodaibbaaaDoorRefSum3
import Derived.Test.YtmohlmodaibbaaaDoorLay3
namespace Go.Proofs.YtmohlmodaibbaaaDoor
open Go.ChangeShapes Go.WideShapes Go.RowKit

set_option maxRecDepth 100000 in
theorem r_of_vars {W : World} {l : List (String × DataW Unit)} (h : laidMet Tryd.prog l W) (hm : ("strata/strataref03.rounds", Rows.laid_strata_strataref03_rounds) ∈ l) : RTab W := by
  obtain ⟨ps, hv, _⟩ := h
  have e : (Rows.laid_strata_strataref03_rounds : DataW Unit) = Lib.tabData .u32 kTab := rfl
  rw [e] at hm
  exact tab_of_vars (g := 1) (by kernel_rfl) (by kernel_rfl) Tryd.underlying73 Tryd.underlying47 (by kernel_rfl) (by kernel_rfl) hv hm
set_option maxRecDepth 100000 in
theorem b_of_vars {W : World} {l : List (String × DataW Unit)} (h : laidMet Tryd.prog l W) (hm : ("strata/strataref03.begin", Rows.laid_strata_strataref03_begin) ∈ l) : BTab W := by
  obtain ⟨ps, hv, _⟩ := h
  have e : (Rows.laid_strata_strataref03_begin : DataW Unit) = Lib.tabData .u32 init8 := rfl
  rw [e] at hm
  exact tab_of_vars (g := 0) (by kernel_rfl) (by kernel_rfl) Tryd.underlying48 Tryd.underlying47 (by kernel_rfl) (by kernel_rfl) hv hm
abbrev listed6 : List (String × DataW Unit) := [("math/bits.deBruijn32tab", Rows.laid_math_bits_deBruijn32tab), ("math/bits.deBruijn64tab", Rows.laid_math_bits_deBruijn64tab), ("internal/strconv.uint64pow10", Rows.laid_internal_strconv_uint64pow10), ("strata/strataref03.begin", Rows.laid_strata_strataref03_begin), ("strata/strataref03.rounds", Rows.laid_strata_strataref03_rounds), ("strata/digest.roundNumbers", Rows.laid_strata_digest_roundNumbers)]
theorem all_of_laid6 {W : World} (h : laidMet Tryd.prog listed6 W) : KTab W ∧ RTab W ∧ BTab W ∧ Pow10 W :=
  ⟨k_of_vars h (by simp), r_of_vars h (by simp), b_of_vars h (by simp), pow_of_vars h (by simp)⟩
noncomputable def laidWorld6 (os : Os) : World := ((laidWorld4 os).setRow 0 (cellsOfData Rows.laid_strata_strataref03_begin)).setRow 1 (cellsOfData Rows.laid_strata_strataref03_rounds)
end Go.Proofs.YtmohlmodaibbaaaDoor
