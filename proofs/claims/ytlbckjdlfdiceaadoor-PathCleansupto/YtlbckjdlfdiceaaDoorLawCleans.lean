/- PathCleans, walked, at texts of at most 2^20 bytes: every text is cleaned as the document's answer has it. -/
import Derived.Test.YtlbckjdlfdiceaaDoorWorks
import Derived.Test.YtlbckjdlfdiceaaDoorRefG
namespace Go.Proofs.YtlbckjdlfdiceaaDoor
open Go.RowKit

set_option maxHeartbeats 1000000 in
theorem cleans_law (s : ByteArray) (w : World) (hg : ErrType w) (hp : s.size ≤ 1048576) :
    Calls Tryd.prog 7 #[.string s] w fun e w' => e = .returned (.bool true) ∧ Below w.heap.size w w' := by
  have e1 : ((cleanB s).toList == (cleanB s).toList) = true := by simp
  go_enter Tryd.func7, Tryd.ntmps7
  go_wp2_with fail
  refine (clean_p s _ (by omega)).mono ?_
  rintro e w1 ⟨rfl, b1⟩
  go_wp2_with fail
  refine (clean_r s _ (by omega)).mono ?_
  rintro e w2 ⟨rfl, b2⟩
  replace b2 := below_join b1 b2
  clear b1
  go_wp2_with fail
  refine (works_p _ (hg.below b2)).mono ?_
  rintro e w3 ⟨rfl, b3⟩
  replace b3 := below_join b2 b3
  go_wp2_with fail
  go_ret
  exact ⟨rfl, b3⟩
end Go.Proofs.YtlbckjdlfdiceaaDoor
