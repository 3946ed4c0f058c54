/- Package path's Join. -/
import Derived.Test.YtgdkgdlgalinbaaGreatDoorBaseU
namespace Go.Proofs.YtgdkgdlgalinbaaGreatDoor
open Go.RowKit

theorem join_p (a b : ByteArray) (w : World) (hs : a.size + 1 + b.size ≤ 9223372036854775807) : Calls Tryz.prog 36 #[.string a, .string b] w fun e w' => e = .returned (.string (joinB a b)) ∧ w' = w := by
  cases h : a.toList.isEmpty
  · go_enter Tryz.func36, Tryz.ntmps36
    go_wp2
    go_ret
    exact ⟨by simp [joinB, h], rfl⟩
  · go_enter Tryz.func36, Tryz.ntmps36
    go_wp2
    go_ret
    exact ⟨by simp [joinB, h], rfl⟩
end Go.Proofs.YtgdkgdlgalinbaaGreatDoor
