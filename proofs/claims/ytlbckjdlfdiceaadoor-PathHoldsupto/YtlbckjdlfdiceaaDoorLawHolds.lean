/- PathHolds, walked, at texts of at most 2^20 bytes: every two texts stand against each other as the document's answer has it, both ways round. -/
import Derived.Test.YtlbckjdlfdiceaaDoorWorks
import Derived.Test.YtlbckjdlfdiceaaDoorRefC
import Derived.Test.YtlbckjdlfdiceaaDoorRefF
namespace Go.Proofs.YtlbckjdlfdiceaaDoor
open Go.RowKit

set_option maxHeartbeats 2000000 in
theorem holds_law (p q : ByteArray) (w : World) (hg : ErrType w) (hp : p.size ≤ 1048576) (hq : q.size ≤ 1048576) :
    Calls Tryd.prog 8 #[.string p, .string q] w fun e w' => e = .returned (.bool true) ∧ Below w.heap.size w w' := by
  have e1 : (compareN p q == compareN p q) = true := by simp
  have e2 : (compareN q p == compareN q p) = true := by simp
  have e3 : (belowB p q == belowB p q) = true := by simp
  have e4 : (belowB q p == belowB q p) = true := by simp
  go_enter Tryd.func8, Tryd.ntmps8
  go_wp2_with fail
  refine (compare_p p q _ (by omega) (by omega)).mono ?_
  rintro e w1 ⟨rfl, b1⟩
  go_wp2_with fail
  refine (compare_r p q _ (by omega) (by omega)).mono ?_
  rintro e w2 ⟨rfl, b2⟩
  replace b2 := below_join b1 b2
  clear b1
  go_wp2_with fail
  refine (compare_p q p _ (by omega) (by omega)).mono ?_
  rintro e w3 ⟨rfl, b3⟩
  replace b3 := below_join b2 b3
  clear b2
  go_wp2_with fail
  refine (compare_r q p _ (by omega) (by omega)).mono ?_
  rintro e w4 ⟨rfl, b4⟩
  replace b4 := below_join b3 b4
  clear b3
  go_wp2_with fail
  refine (below_p p q _).mono ?_
  rintro e w5 ⟨rfl, hw⟩
  subst hw
  go_wp2_with fail
  refine (below_r p q _ (by omega)).mono ?_
  rintro e w6 ⟨rfl, hw⟩
  subst hw
  go_wp2_with fail
  refine (below_p q p _).mono ?_
  rintro e w7 ⟨rfl, hw⟩
  subst hw
  go_wp2_with fail
  refine (below_r q p _ (by omega)).mono ?_
  rintro e w8 ⟨rfl, hw⟩
  subst hw
  go_wp2_with fail
  refine (works_p _ (hg.below b4)).mono ?_
  rintro e w9 ⟨rfl, b9⟩
  replace b9 := below_join b4 b9
  go_wp2_with fail
  go_ret
  exact ⟨rfl, b9⟩
end Go.Proofs.YtlbckjdlfdiceaaDoor
