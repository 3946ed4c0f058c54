/- PathParts, walked: of every two texts parent, last name and what is put together are as the document's answer has them. -/
import Derived.Test.YtlbckjdlfdiceaaDoorWorks
import Derived.Test.YtlbckjdlfdiceaaDoorRefA
namespace Go.Proofs.YtlbckjdlfdiceaaDoor
open Go.RowKit

set_option maxHeartbeats 1000000 in
theorem parts_law (p q : ByteArray) (w : World) (hg : ErrType w) (hp : p.size ≤ 140737488351232) (hq : q.size ≤ 140737488351232) :
    Calls Tryd.prog 6 #[.string p, .string q] w fun e w' => e = .returned (.bool true) ∧ Below w.heap.size w w' := by
  have e1 : ((parentB p).toList == (parentB p).toList) = true := by simp
  have e2 : ((lastB p).toList == (lastB p).toList) = true := by simp
  have e3 : ((joinB p q).toList == (joinB p q).toList) = true := by simp
  go_enter Tryd.func6, Tryd.ntmps6
  go_wp2_with (first | (go_at_call 17; refine (parent_p _ _ (by omega)).mono ?_; rintro e w2 ⟨rfl, hw⟩; subst hw) | (go_at_call 18; refine (parent_r _ _ (by omega)).mono ?_; rintro e w2 ⟨rfl, hw⟩; subst hw) | (go_at_call 19; refine (last_p _ _ (by omega)).mono ?_; rintro e w2 ⟨rfl, hw⟩; subst hw) | (go_at_call 20; refine (last_r _ _ (by omega)).mono ?_; rintro e w2 ⟨rfl, hw⟩; subst hw) | (go_at_call 21; refine (join_p _ _ _ (by omega)).mono ?_; rintro e w2 ⟨rfl, hw⟩; subst hw) | (go_at_call 22; refine (join_r _ _ _ (by omega)).mono ?_; rintro e w2 ⟨rfl, hw⟩; subst hw) | (go_at_call 12; refine (works_p _ hg).mono ?_; rintro e w2 ⟨rfl, hb⟩))
  go_ret
  exact ⟨rfl, hb⟩
end Go.Proofs.YtlbckjdlfdiceaaDoor
