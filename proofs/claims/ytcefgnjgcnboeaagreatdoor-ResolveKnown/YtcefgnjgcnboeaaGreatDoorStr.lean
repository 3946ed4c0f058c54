/- Package path's small functions: Join, Parent, Last. -/
import Derived.Test.YtcefgnjgcnboeaaGreatDoorShelf
import Derived.Test.YtcefgnjgcnboeaaGreatDoorSpec
import Derived.WalkKit
import Derived.WalkSpells
import Derived.Outline
namespace Go.Proofs.YtcefgnjgcnboeaaGreatDoor
open Go.RowKit

theorem join_p (a b : ByteArray) (w : World) (hs : a.size + 1 + b.size ≤ 9223372036854775807) : Calls Tryz.prog 71 #[.string a, .string b] w fun e w' => e = .returned (.string (joinB a b)) ∧ w' = w := by
  cases h : a.toList.isEmpty
  · go_enter Tryz.func71, Tryz.ntmps71
    go_wp2
    go_ret
    exact ⟨by simp [joinB, h], rfl⟩
  · go_enter Tryz.func71, Tryz.ntmps71
    go_wp2
    go_ret
    exact ⟨by simp [joinB, h], rfl⟩
theorem parent_p (a : ByteArray) (w : World) (hs : a.size < 4611686018427387904) : Calls Tryz.prog 70 #[.string a] w fun e w' => e = .returned (.string (parentB a)) ∧ w' = w := by
  have hr := lastIndexByte_range a 47
  by_cases h : Lib.lastIndexByte a 47 < 0
  · go_enter Tryz.func70, Tryz.ntmps70
    go_wp2_with (go_at_call 96; refine (Tryz.strings_LastIndexByte _ _ hs _).mono ?_; rintro e w' ⟨rfl, rfl⟩)
    go_ret
    exact ⟨by simp [parentB, h], rfl⟩
  · go_enter Tryz.func70, Tryz.ntmps70
    go_wp2_with (go_at_call 96; refine (Tryz.strings_LastIndexByte _ _ hs _).mono ?_; rintro e w' ⟨rfl, rfl⟩)
    go_ret
    exact ⟨by unfold parentB; rw [if_neg (by omega)]; rfl, rfl⟩
theorem last_p (a : ByteArray) (w : World) (hs : a.size < 4611686018427387904) : Calls Tryz.prog 87 #[.string a] w fun e w' => e = .returned (.string (lastB a)) ∧ w' = w := by
  have hr := lastIndexByte_range a 47
  go_enter Tryz.func87, Tryz.ntmps87
  go_wp2_with (go_at_call 96; refine (Tryz.strings_LastIndexByte _ _ hs _).mono ?_; rintro e w' ⟨rfl, rfl⟩)
  go_ret
  exact ⟨by simp [lastB], rfl⟩
theorem whiteout_p (a : ByteArray) (w : World) (hs : a.size < 1152921504606846976) : Calls Tryz.prog 91 #[.string a] w fun e w' => e = .returned (.string (whiteoutB a)) ∧ w' = w := by
  have h1 := parentB_size a
  have h2 := lastB_size a
  go_enter Tryz.func91, Tryz.ntmps91
  go_wp2_with (first | (go_at_call 70; refine (parent_p _ _ (by omega)).mono ?_; rintro e w' ⟨rfl, rfl⟩) | (go_at_call 87; refine (last_p _ _ (by omega)).mono ?_; rintro e w' ⟨rfl, rfl⟩) | (go_at_call 71; go_must (refine (join_p _ _ _ (by rw [ByteArray.size_append, show (ByteArray.mk #[46, 119, 104, 46]).size = 4 from rfl]; omega)).mono ?_); rintro e w' ⟨rfl, rfl⟩))
  go_ret
  exact ⟨rfl, rfl⟩
end Go.Proofs.YtcefgnjgcnboeaaGreatDoor
