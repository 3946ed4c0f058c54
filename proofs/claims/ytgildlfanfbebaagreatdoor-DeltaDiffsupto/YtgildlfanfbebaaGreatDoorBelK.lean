/- Package path's Below. (Out of strata01's Name.) -/
import Derived.Test.YtgildlfanfbebaaGreatDoorCut
import Derived.Test.YtgildlfanfbebaaGreatDoorBelM
namespace Go.Proofs.YtgildlfanfbebaaGreatDoor
open Go.RowKit

theorem below_p (a b : ByteArray) (w : World) : Calls Tryz.prog 28 #[.string a, .string b] w fun e w' => e = .returned (.bool (belowB a b)) ∧ w' = w := by
  cases h1 : a.toList.isEmpty
  · cases h2 : Lib.hasPrefix (un b) (un a)
    all_goals
      have H2 : Hid _ := h2
      clear h2
      go_enter Tryz.func28, Tryz.ntmps28
      go_wp2_with (first | (go_at_call 57; refine (Tryz.strings_CutPrefix _ _ _).mono ?_; rintro e w2 ⟨rfl, rfl⟩; rw [show Lib.hasPrefix b.data.toList a.data.toList = _ from H2.out]) | (go_at_call 58; refine (Tryz.strings_HasPrefix _ _ _).mono ?_; rintro e w2 ⟨rfl, rfl⟩))
      go_ret
      exact ⟨by simp [belowB, h1, H2.out]; try rfl, rfl⟩
  · go_enter Tryz.func28, Tryz.ntmps28
    go_wp2
    go_ret
    exact ⟨by simp [belowB, h1]; try rfl, rfl⟩
end Go.Proofs.YtgildlfanfbebaaGreatDoor
