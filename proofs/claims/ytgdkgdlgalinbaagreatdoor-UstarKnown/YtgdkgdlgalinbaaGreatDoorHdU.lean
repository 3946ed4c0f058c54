/- Headers as values; package ustar's numbersOf and textsFit. -/
import Derived.Test.YtgdkgdlgalinbaaGreatDoorBlkU
namespace Go.Proofs.YtgdkgdlgalinbaaGreatDoor
open Go Go.RowKit

/-- A header. -/
structure Hd where
  (path : ByteArray) (mode uid gid size time : Int) (typ : UInt8) (link user group : ByteArray) (major minor : Int)
def hcs (h : Hd) : Array Value := #[.string h.path, .int .i64 h.mode, .int .i64 h.uid, .int .i64 h.gid, .int .i64 h.size, .int .i64 h.time, .int .u8 h.typ.toNat, .string h.link, .string h.user, .string h.group, .int .i64 h.major, .int .i64 h.minor]
/-- The numbers' fields, and where they stand in a header. -/
def nums (b : Nat) : Array Value := #[.int .i64 1, .pointer (some ⟨b, 1, none⟩), .int .i64 2, .pointer (some ⟨b, 2, none⟩), .int .i64 3, .pointer (some ⟨b, 3, none⟩), .int .i64 4, .pointer (some ⟨b, 4, none⟩), .int .i64 5, .pointer (some ⟨b, 5, none⟩), .int .i64 12, .pointer (some ⟨b, 10, none⟩), .int .i64 13, .pointer (some ⟨b, 11, none⟩)]
def nums0 : Array Value := #[.int .i64 0, .pointer none, .int .i64 0, .pointer none, .int .i64 0, .pointer none, .int .i64 0, .pointer none, .int .i64 0, .pointer none, .int .i64 0, .pointer none, .int .i64 0, .pointer none]
set_option maxRecDepth 100000 in
set_option maxHeartbeats 1000000 in
theorem numbersOf_p (b : Nat) (w : World) : Calls Tryz.prog 20 #[.pointer (some ⟨b, 0, none⟩)] w fun e w' => e = .returned (.agg (nums b)) ∧ Below w.heap.size w w' := by
  go_enter Tryz.func20, Tryz.ntmps20
  go_wp2
  go_region
  go_wp2
  refine bodyPost_ret (results_cell_row rfl _ _ w.heap.size 54 (nums b) (0, 0) _ rfl (show Lies _ _ _ _ from (Lies.new w _ _)) Tryz.underlying54 rfl (by kernel_rfl)) rfl ?_
  exact ⟨rfl, below_drawn ((Below.refl _ w).alloc (Nat.le_refl _) _) 1⟩
end Go.Proofs.YtgdkgdlgalinbaaGreatDoor
