/- A small number is itself in 64 bits. -/
import Derived.Test.YtodgcmhkojkpcaaGreatDoorKnowD
namespace Go.Proofs.YtodgcmhkojkpcaaGreatDoor
open Go Go.RowKit
theorem wrap_small (j : Nat) (h : j ≤ 1000000) : IntKind.i64.wrap (j : Int) = (j : Int) := by
  first
    | (rw [IntKind.wrap_i64]; unfold wrap64; omega)
    | (rw [IntKind.wrap_i64]; omega)
    | (simp [IntKind.wrap]; omega)
    | (unfold IntKind.wrap; split <;> omega)
end Go.Proofs.YtodgcmhkojkpcaaGreatDoor
