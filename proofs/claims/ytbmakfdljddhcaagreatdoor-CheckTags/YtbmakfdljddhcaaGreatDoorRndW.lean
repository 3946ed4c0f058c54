/- What a loop's rounds write: a set of blocks alone. (Stage 7's text without its entries.) -/
import Derived.Test.YtbmakfdljddhcaaGreatDoorRange
import Derived.Test.YtbmakfdljddhcaaGreatDoorRdX
namespace Go.Proofs.YtbmakfdljddhcaaGreatDoor
open Go Go.RowKit

theorem Rnd.of_below {S : Nat → Prop} {A B : World} (h : Below A.heap.size A B) : Rnd S S A B := ⟨h.os, h.tape, h.output, h.size, fun k hk _ => h.block k hk, fun _ h => .inl h⟩
theorem put_os (W : World) (l : Nat) (o : Obj) : (W.putObj l o).os = W.os ∧ (W.putObj l o).tape = W.tape ∧ (W.putObj l o).output = W.output := ⟨rfl, rfl, rfl⟩
theorem put_size (W : World) (l : Nat) (o : Obj) : (W.putObj l o).heap.size = W.heap.size := by simp [World.putObj]
end Go.Proofs.YtbmakfdljddhcaaGreatDoor
