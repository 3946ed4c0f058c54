/- target: may a link lead to a text. -/
import Derived.Test.YtgildlfanfbebaaGreatDoorLayW
namespace Go.Proofs.YtgildlfanfbebaaGreatDoor
open Go Go.RowKit

def targB (s : ByteArray) : Bool := !s.toList.isEmpty && decide (s.size ≤ 100) && decide (Lib.indexByte (un s) 0 < 0)
set_option maxRecDepth 100000 in
theorem targ_p (s : ByteArray) (w : World) : Calls Tryz.prog 117 #[.string s] w fun e w' => e = .returned (.bool (targB s)) ∧ w' = w := by
  cases h1 : s.toList.isEmpty
  · by_cases h2 : s.size ≤ 100
    · have h2' : decide ((s.size : Int) ≤ 100) = true := by simp; omega
      go_enter Tryz.func117, Tryz.ntmps117
      go_wp2_with (go_at_call 137; refine (Tryz.strings_IndexByte _ _ _).mono ?_; rintro e w' ⟨rfl, rfl⟩)
      go_ret
      exact ⟨by simp [targB, h1, h2]; rfl, rfl⟩
    · have h2' : decide ((s.size : Int) ≤ 100) = false := by simp; omega
      go_enter Tryz.func117, Tryz.ntmps117
      go_wp2
      go_ret
      exact ⟨by simp [targB, h1, h2], rfl⟩
  · go_enter Tryz.func117, Tryz.ntmps117
    go_wp2
    go_ret
    exact ⟨by simp [targB, h1], rfl⟩
end Go.Proofs.YtgildlfanfbebaaGreatDoor
