/- newNode: a node of its own, with a map where it is a directory. -/
import Derived.Test.YtgildlfanfbebaaGreatDoorNodeW
import Derived.Test.YtgildlfanfbebaaGreatDoorProg
import Derived.WalkKit
import Derived.WalkSpells
import Derived.Carry
namespace Go.Proofs.YtgildlfanfbebaaGreatDoor
open Go Go.RowKit

set_option maxRecDepth 100000 in
theorem new_p (x : Ent) (w : World) : Calls Tryz.prog 115 #[.agg #[.string x.path, .int .i64 x.kind, .int .i64 x.mode, .string x.data, .string x.link]] w fun ex w' =>
    ∃ z : Nd, ex = .returned (.pointer (some ⟨z.b, 0, none⟩)) ∧ z.e = x ∧ Below w.heap.size w w' ∧ w.heap.size ≤ z.b ∧ w'.heap[z.b]? = some (.cells (ncells z) 155) ∧ (∀ q, z.m = some q → w.heap.size ≤ q ∧ KidsAt w' Tryz.prog 9 q 0 fun _ => none) ∧ (z.m = none ↔ x.kind ≠ 1) := by
  have hmm := @run_makeMap Tryz.prog
  by_cases hk : x.kind = 1
  · go_enter Tryz.func115, Tryz.ntmps115
    go_wp2
    go_ret
    generalize hW1 : w.alloc (.cells #[.string x.path, .int .i64 1, .int .i64 x.mode, .string x.data, .string x.link] 52) = W1
    have hs1 : W1.heap.size = w.heap.size + 1 := by rw [← hW1]; simp
    have hb1 : Below w.heap.size w W1 := by rw [← hW1]; exact (Below.refl _ _).alloc (Nat.le_refl _) _
    have hk2 : ncells ⟨w.heap.size + 1 + 1, some (w.heap.size + 1), x⟩ = #[.string x.path, .int .i64 1, .int .i64 x.mode, .string x.data, .string x.link, .map (some (w.heap.size + 1))] := by simp [ncells, hk]
    refine ⟨⟨w.heap.size + 1 + 1, some (w.heap.size + 1), x⟩, rfl, rfl, ?_, by simp; omega, ?_, fun q hq => ?_, by simp [hk]⟩
    · exact (hb1.alloc (by omega) _).alloc (by simp; omega) _
    · rw [hk2, show w.heap.size + 1 + 1 = (W1.alloc (.map #[] 0)).heap.size by simp [hs1]]
      exact heap_alloc_new _ _
    · cases hq
      refine ⟨by omega, ?_⟩
      have := kids_made W1 Tryz.prog 9
      rw [hs1] at this
      exact this.alloc _
  · go_enter Tryz.func115, Tryz.ntmps115
    go_wp2
    go_ret
    refine ⟨⟨w.heap.size + 1, none, x⟩, rfl, rfl, ?_, by simp, ?_, by simp, by simpa using hk⟩
    · exact ((Below.refl _ _).alloc (Nat.le_refl _) _).alloc (by simp) _
    · rw [show w.heap.size + 1 = (w.alloc (.cells #[.string x.path, .int .i64 x.kind, .int .i64 x.mode, .string x.data, .string x.link] 52)).heap.size by simp]
      exact heap_alloc_new _ _
end Go.Proofs.YtgildlfanfbebaaGreatDoor
