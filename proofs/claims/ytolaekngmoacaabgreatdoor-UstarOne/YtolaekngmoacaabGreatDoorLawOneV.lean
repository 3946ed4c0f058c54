/- UstarOne, with the byte as the model has it. -/
import Derived.Test.YtolaekngmoacaabGreatDoorLawOneU
import Derived.Test.YtolaekngmoacaabGreatDoorLaidV
namespace Go.Proofs.YtolaekngmoacaabGreatDoor
open Go Go.RowKit
theorem one_law' (h : Hd) (hs : h.path.size < 4611686018427387904) (ak n : Int) (hn : (Lit.int .u8 n).wf = true) (w : World) (hE : Env w) (hg : ErrType w) : Calls Tryz.prog 3 #[.agg (hcs h), .int .i64 ak, .int .u8 n] w fun e w' => e = .returned (.bool true) ∧ Below w.heap.size w w' := by
  rw [u8_of n hn]
  exact one_law h hs ak _ w hE hg
end Go.Proofs.YtolaekngmoacaabGreatDoor
