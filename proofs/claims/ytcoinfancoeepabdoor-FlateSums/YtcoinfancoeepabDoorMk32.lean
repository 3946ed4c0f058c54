/- Lists of int32, made. -/
import Derived.Test.YtcoinfancoeepabDoorBaseU
import Derived.OwnWalk
import Derived.Laws.OwnMore
namespace Go.Proofs.YtcoinfancoeepabDoor
open Go Go.RowKit

theorem info_i32 : (Tryd.prog.info? 21).map (fun i => (i.zero, i.size, i.bytes)) = some (some (.int .i32 0), 1, 4) := by kernel_rfl
theorem make_32 (n : Nat) (hn : n ≤ 100) (w : World) : (Instr.makeSlice 94 (.int .i64 n) (.int .i64 n)).run Tryd.prog w = .ok (.slice (some ⟨w.heap.size, 0, none⟩) n n) (w.alloc (.cells (List.replicate n (.int .i32 0)).toArray 21)) := by
  obtain ⟨i0, hi, hz0, hz1, hz2⟩ := info_parts info_i32
  have h := run_make w (P := Tryd.prog) 94 21 i0 (.int .i32 0) Tryd.underlying94 hi hz0 .i64 .i64 n n (by omega) (by omega) (by rw [hz2]; omega) (by omega)
  have e : madeCells (Value.int .i32 0).cells ((n : Int).toNat * i0.size) = (List.replicate n (.int .i32 0)).toArray := by
    rw [hz1, Int.toNat_natCast, Nat.mul_one]
    unfold madeCells
    apply Array.toList_inj.1
    simp [Value.cells, Nat.mod_one]
    exact List.eq_replicate_iff.2 ⟨by simp, fun b hb => by simp at hb; exact hb.2.symm⟩
  rw [e] at h
  exact h
end Go.Proofs.YtcoinfancoeepabDoor
