/- What the rows of layer 3 that reach the round numbers list, and a world in which it stands. -/
import Derived.Test.YtmohlmodaibbaaaDoorLaid3
import Derived.Test.YtmohlmodaibbaaaDoorTake3
namespace Go.Proofs.YtmohlmodaibbaaaDoor
open Go.ChangeShapes Go.WideShapes Go.RowKit

set_option maxRecDepth 100000 in
theorem k_of_vars {W : World} {l : List (String × DataW Unit)} (h : laidMet Tryd.prog l W) (hm : ("strata/digest.roundNumbers", Rows.laid_strata_digest_roundNumbers) ∈ l) : KTab W := by
  obtain ⟨ps, hv, _⟩ := h
  have e : (Rows.laid_strata_digest_roundNumbers : DataW Unit) = Lib.tabData .u32 kTab := rfl
  rw [e] at hm
  exact tab_of_vars (g := 2) (by kernel_rfl) (by kernel_rfl) Tryd.underlying73 Tryd.underlying47 (by kernel_rfl) (by kernel_rfl) hv hm
noncomputable def laidWorld4 (os : Os) : World := (laidWorld os).setRow 2 (cellsOfData Rows.laid_strata_digest_roundNumbers)
end Go.Proofs.YtmohlmodaibbaaaDoor
