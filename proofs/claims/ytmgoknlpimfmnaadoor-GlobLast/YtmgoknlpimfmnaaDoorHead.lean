/- Texts cut short. -/
import Derived.Test.YtmgoknlpimfmnaaDoorRefNames
namespace Go.Proofs.YtmgoknlpimfmnaaDoor
open Go Go.RowKit

def headB (s : ByteArray) (n : Nat) : ByteArray := if s.size ≤ n then s else s.extract 0 n
theorem headB_size (s : ByteArray) (n : Nat) : (headB s n).size ≤ n := by
  unfold headB; split
  · assumption
  · rw [size_extract' _ _ _ (by omega)]; omega
theorem head_p (s : ByteArray) (n : Nat) (w : World) (h1 : 1 ≤ n) (h2 : n ≤ 1099511627776) : Calls Tryd.prog 4 #[.string s, .int .i64 n] w fun e w' => e = .returned (.string (headB s n)) ∧ w' = w := by
  have d1 : ¬ (n : Int) < 1 := by omega
  by_cases h : s.size ≤ n
  · have d2 : (s.size : Int) ≤ (n : Int) := by omega
    go_enter Tryd.func4, Tryd.ntmps4
    go_wp2
    go_ret
    exact ⟨by unfold headB; rw [if_pos h]; rfl, rfl⟩
  · have d2 : ¬ (s.size : Int) ≤ (n : Int) := by omega
    have d3 : (0 : Int) ≤ (n : Int) := by omega
    go_enter Tryd.func4, Tryd.ntmps4
    go_wp2
    go_ret
    exact ⟨by unfold headB; rw [if_neg h]; rfl, rfl⟩
end Go.Proofs.YtmgoknlpimfmnaaDoor
