/- PathSplits, walked: every text is said by a header as the document's answer has it. -/
import Derived.Test.YtlbckjdlfdiceaaDoorWorks
import Derived.Test.YtlbckjdlfdiceaaDoorRefB
namespace Go.Proofs.YtlbckjdlfdiceaaDoor
open Go.RowKit

/-- Plain at an error's number and that number. -/
theorem plain_v (n : Int) (h0 : 0 ≤ n) (h1 : n ≤ 32) (w : World) (hg : ErrType w) : Calls Tryd.prog 9 #[errV n, .int .i64 n] w fun e w' => e = .returned (.bool true) ∧ Below w.heap.size w w' := by
  by_cases h : n = 0
  · subst h; exact plain_nil w
  · rw [errV_some n h]; exact plain_some n (by omega) h1 w hg

set_option maxHeartbeats 1000000 in
theorem splits_law (p : ByteArray) (w : World) (hg : ErrType w) (hp : p.size ≤ 140737488351232) :
    Calls Tryd.prog 5 #[.string p] w fun e w' => e = .returned (.bool true) ∧ Below w.heap.size w w' := by
  have e1 : ((splitP p).1.toList == (splitP p).1.toList) = true := by simp
  have e2 : ((splitP p).2.1.toList == (splitP p).2.1.toList) = true := by simp
  have hn : 0 ≤ (splitP p).2.2 ∧ (splitP p).2.2 ≤ 32 := by rcases splitP_cases p with h | h <;> omega
  obtain ⟨hn0, hn1⟩ := hn
  go_enter Tryd.func5, Tryd.ntmps5
  go_wp2_with fail
  refine (split_r p _ (by omega)).mono ?_
  rintro e w1 ⟨rfl, b1⟩
  go_wp2_with fail
  refine (split_p p _ (by omega)).mono ?_
  rintro e w2 ⟨rfl, b2⟩
  replace b2 := below_join b1 b2
  clear b1
  go_wp2_with fail
  refine (plain_v _ hn0 hn1 _ (hg.below b2)).mono ?_
  rintro e w3 ⟨rfl, b3⟩
  replace b3 := below_join b2 b3
  clear b2
  go_wp2_with fail
  refine (works_p _ (hg.below b3)).mono ?_
  rintro e w4 ⟨rfl, b4⟩
  replace b4 := below_join b3 b4
  go_wp2_with fail
  go_ret
  exact ⟨rfl, b4⟩
end Go.Proofs.YtlbckjdlfdiceaaDoor
