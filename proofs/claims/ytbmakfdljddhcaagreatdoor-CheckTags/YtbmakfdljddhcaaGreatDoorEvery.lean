/- Small facts of stage 1's walk over pieces, without path's own function. -/
import Derived.Test.YtbmakfdljddhcaaGreatDoorCut
import Derived.Test.YtbmakfdljddhcaaGreatDoorRange
import Derived.Shelf.Abstract
import Derived.Shelf.RegionOpen
import Derived.OwnWalkIn
import Derived.TacticsInMore
import Derived.LoopNIn
import Derived.LoopIn
namespace Go.Proofs.YtbmakfdljddhcaaGreatDoor
open Go Go.RowKit Go.Shelf
attribute [local go_sem] Oper.semAt_some

theorem grown_draws (w : World) (k : Nat) : w.grownBy (w.drewN k) none := ⟨rfl, rfl, rfl, Nat.le_refl _, fun _ _ _ => rfl⟩
theorem ix_cases (t : ByteArray) : ix t = -1 ∨ ∃ i : Nat, ix t = i ∧ i < t.size := by
  have h := ix_range t
  by_cases h1 : ix t = -1
  · exact .inl h1
  · exact .inr ⟨(ix t).toNat, by omega, by omega⟩
theorem wd (n : Nat) : Fence.wide.depth.isSome = true → 1 ≤ n := fun h => by simp [Fence.wide] at h
end Go.Proofs.YtbmakfdljddhcaaGreatDoor
