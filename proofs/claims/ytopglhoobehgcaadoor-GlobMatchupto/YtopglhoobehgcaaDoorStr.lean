/- Package path's small functions: Join, Parent, Last. -/
import Derived.Test.YtopglhoobehgcaaDoorShelf
import Derived.Test.YtopglhoobehgcaaDoorSpec
import Derived.WalkKit
import Derived.WalkSpells
import Derived.Outline
namespace Go.Proofs.YtopglhoobehgcaaDoor
open Go.RowKit

theorem join_p (a b : ByteArray) (w : World) (hs : a.size + 1 + b.size ≤ 9223372036854775807) : Calls Tryd.prog 32 #[.string a, .string b] w fun e w' => e = .returned (.string (joinB a b)) ∧ w' = w := by
  cases h : a.toList.isEmpty
  · go_enter Tryd.func32, Tryd.ntmps32
    go_wp2
    go_ret
    exact ⟨by simp [joinB, h], rfl⟩
  · go_enter Tryd.func32, Tryd.ntmps32
    go_wp2
    go_ret
    exact ⟨by simp [joinB, h], rfl⟩
theorem parent_p (a : ByteArray) (w : World) (hs : a.size < 4611686018427387904) : Calls Tryd.prog 30 #[.string a] w fun e w' => e = .returned (.string (parentB a)) ∧ w' = w := by
  have hr := lastIndexByte_range a 47
  by_cases h : Lib.lastIndexByte a 47 < 0
  · go_enter Tryd.func30, Tryd.ntmps30
    go_wp2_with (go_at_call 52; refine (Tryd.strings_LastIndexByte _ _ hs _).mono ?_; rintro e w' ⟨rfl, rfl⟩)
    go_ret
    exact ⟨by simp [parentB, h], rfl⟩
  · go_enter Tryd.func30, Tryd.ntmps30
    go_wp2_with (go_at_call 52; refine (Tryd.strings_LastIndexByte _ _ hs _).mono ?_; rintro e w' ⟨rfl, rfl⟩)
    go_ret
    exact ⟨by unfold parentB; rw [if_neg (by omega)]; rfl, rfl⟩
theorem last_p (a : ByteArray) (w : World) (hs : a.size < 4611686018427387904) : Calls Tryd.prog 31 #[.string a] w fun e w' => e = .returned (.string (lastB a)) ∧ w' = w := by
  have hr := lastIndexByte_range a 47
  go_enter Tryd.func31, Tryd.ntmps31
  go_wp2_with (go_at_call 52; refine (Tryd.strings_LastIndexByte _ _ hs _).mono ?_; rintro e w' ⟨rfl, rfl⟩)
  go_ret
  exact ⟨by simp [lastB], rfl⟩
theorem whiteout_p (a : ByteArray) (w : World) (hs : a.size < 1152921504606846976) : Calls Tryd.prog 29 #[.string a] w fun e w' => e = .returned (.string (whiteoutB a)) ∧ w' = w := by
  have h1 := parentB_size a
  have h2 := lastB_size a
  go_enter Tryd.func29, Tryd.ntmps29
  go_wp2_with (first | (go_at_call 30; refine (parent_p _ _ (by omega)).mono ?_; rintro e w' ⟨rfl, rfl⟩) | (go_at_call 31; refine (last_p _ _ (by omega)).mono ?_; rintro e w' ⟨rfl, rfl⟩) | (go_at_call 32; go_must (refine (join_p _ _ _ (by rw [ByteArray.size_append, show (ByteArray.mk #[46, 119, 104, 46]).size = 4 from rfl]; omega)).mono ?_); rintro e w' ⟨rfl, rfl⟩))
  go_ret
  exact ⟨rfl, rfl⟩
end Go.Proofs.YtopglhoobehgcaaDoor
