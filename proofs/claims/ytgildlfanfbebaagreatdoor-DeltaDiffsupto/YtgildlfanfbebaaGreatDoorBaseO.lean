/- Blocks of cells and worlds, as stage 3's texts have them, beside stage 2's. -/
import Derived.Test.YtgildlfanfbebaaGreatDoorSet
import Derived.Test.YtgildlfanfbebaaGreatDoorAsE
import Derived.Laws.CopyOwn
namespace Go.Proofs.YtgildlfanfbebaaGreatDoor
open Go Go.RowKit
theorem below_join {w w1 w2 : World} (h : Below w.heap.size w w1) (k : Below w1.heap.size w1 w2) : Below w.heap.size w w2 := h.trans (k.mono h.size)
theorem Lies.row {W : World} {B : Nat} {t : TypeId} {cur : Array Value} (h : Lies W B t cur) (cs : Array Value) : Lies (W.setRow B cs) B t cs := setRow_heap W B cur cs t (0, 0) h
theorem Lies.otherRow {W : World} {B b : Nat} {t : TypeId} {cur : Array Value} (h : Lies W B t cur) (cs : Array Value) (hne : b ≠ B) : Lies (W.setRow b cs) B t cur := by
  show (W.heap.modify b _)[B]? = _
  rw [Array.getElem?_modify, if_neg hne]; exact h
end Go.Proofs.YtgildlfanfbebaaGreatDoor
