/- Bits turned round, at the known numbers; lengths of numbers. -/
import Derived.Test.YtcoinfancoeepabDoorPutU
import Derived.Test.YtcoinfancoeepabDoorFixU
import Derived.Deep.QuietTactic
namespace Go.Proofs.YtcoinfancoeepabDoor
open Go Go.RowKit

set_option maxRecDepth 100000 in
set_option maxHeartbeats 2000000 in
theorem rev_145 (w : World) : Calls Tryd.prog 79 #[.int .u16 145] w fun e w' => e = .returned (.int .u16 35072) ∧ Below w.heap.size w w' := by
  have ba : bits .and .u16 145 255 = 145 := by decide
  go_enter Tryd.func79, Tryd.ntmps79
  go_wp2
  go_region
  go_wp2
  go_ret
  exact ⟨by kernel_rfl, below_drawn (Below.refl _ w) 1⟩
set_option maxRecDepth 100000 in
set_option maxHeartbeats 2000000 in
theorem rev_0 (w : World) : Calls Tryd.prog 79 #[.int .u16 0] w fun e w' => e = .returned (.int .u16 0) ∧ Below w.heap.size w w' := by
  have ba : bits .and .u16 0 255 = 0 := by decide
  go_enter Tryd.func79, Tryd.ntmps79
  go_wp2
  go_region
  go_wp2
  go_ret
  exact ⟨by kernel_rfl, below_drawn (Below.refl _ w) 1⟩
set_option maxRecDepth 100000 in
set_option maxHeartbeats 2000000 in
theorem len64_1 (w : World) : Calls Tryd.prog 78 #[.int .u64 1] w fun e w' => e = .returned (.int .i64 1) ∧ w' = w := by
  go_enter Tryd.func78, Tryd.ntmps78
  go_wp2
  go_ret
  exact ⟨by kernel_rfl, rfl⟩
set_option maxRecDepth 100000 in
theorem len_1 (w : World) : Calls Tryd.prog 50 #[.int .u64 1] w fun e w' => e = .returned (.int .i64 1) ∧ w' = w := by
  go_enter Tryd.func50, Tryd.ntmps50
  go_wp2_with (go_at_call 78; refine (len64_1 w).mono ?_; rintro e w2 ⟨rfl, hw⟩; have hw' := hw.symm; clear hw; subst hw')
  go_ret
  exact ⟨rfl, rfl⟩
end Go.Proofs.YtcoinfancoeepabDoor
