/- PathNames, walked: of every text whether it may be a name is as the document's answer has it. -/
import Derived.Test.YtlbckjdlfdiceaaDoorLawSplits
import Derived.Test.YtlbckjdlfdiceaaDoorRefC
import Derived.Test.YtlbckjdlfdiceaaDoorAny
namespace Go.Proofs.YtlbckjdlfdiceaaDoor
open Go.RowKit

set_option maxHeartbeats 1000000 in
theorem names_law (s : ByteArray) (w : World) (hg : ErrType w) (hp : s.size ≤ 140737488351232) :
    Calls Tryd.prog 3 #[.string s] w fun e w' => e = .returned (.bool true) ∧ Below w.heap.size w w' := by
  have hn : 0 ≤ nameN s ∧ nameN s ≤ 32 := by rcases nameN_cases s with h | h <;> omega
  obtain ⟨hn0, hn1⟩ := hn
  go_enter Tryd.func3, Tryd.ntmps3
  go_wp2_with fail
  refine (name_p s _ (fun h => anyOK s h)).mono ?_
  rintro e w1 ⟨rfl, b1⟩
  go_wp2_with fail
  refine (name_r s _ (by omega)).mono ?_
  rintro e w2 ⟨rfl, hw⟩
  subst hw
  go_wp2_with fail
  refine (plain_v _ hn0 hn1 _ (hg.below b1)).mono ?_
  rintro e w3 ⟨rfl, b3⟩
  replace b3 := below_join b1 b3
  clear b1
  go_wp2_with fail
  refine (works_p _ (hg.below b3)).mono ?_
  rintro e w4 ⟨rfl, b4⟩
  replace b4 := below_join b3 b4
  go_wp2_with fail
  go_ret
  exact ⟨rfl, b4⟩
end Go.Proofs.YtlbckjdlfdiceaaDoor
