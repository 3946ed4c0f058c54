/- PathKnown: what its helpers give. -/
import Derived.Test.YtopglhoobehgcaaDoorWorks
import Derived.Test.YtopglhoobehgcaaDoorAny
namespace Go.Proofs.YtopglhoobehgcaaDoor
open Go.RowKit

/-- Plain at an error's number and that number. -/
theorem plain_n (n : Int) (h0 : 0 ≤ n) (h1 : n ≤ 32) (w : World) (hg : ErrType w) : Calls Tryd.prog 8 #[errV n, .int .i64 n] w fun e w' => e = .returned (.bool true) ∧ Below w.heap.size w w' := by
  by_cases h : n = 0
  · subst h; exact plain_nil w
  · rw [errV_some n h]; exact plain_some n (by omega) h1 w hg

/-- So many times a text. -/
def repB (s : ByteArray) : Nat → ByteArray
  | 0 => ⟨#[]⟩
  | n + 1 => repB s n ++ s
theorem repB_size (s : ByteArray) : ∀ n, (repB s n).size = n * s.size
  | 0 => by simp [repB]; rfl
  | n + 1 => by rw [repB, ByteArray.size_append, repB_size s n, Nat.succ_mul]

set_option maxRecDepth 100000 in
set_option maxHeartbeats 2000000 in
theorem many_p (s : ByteArray) (n : Nat) (w : World) (hs : s.size ≤ 4096) (hn : n ≤ 4096) : Calls Tryd.prog 6 #[.string s, .int .i64 n] w fun e w' => e = .returned (.string (repB s n)) ∧ w' = w := by
  go_enter Tryd.func6, Tryd.ntmps6
  go_wp2
  go_loopw [5, 6] (fun v i wr => ∃ k : Nat, k ≤ n ∧ i = .int .i64 k ∧ v = .string (repB s k) ∧ wr = w) (fun _ i _ => n - (intOf i).toNat)
  case atStart => exact ⟨0, Nat.zero_le _, rfl, rfl, rfl⟩
  case round =>
    obtain ⟨k, hk, rfl, rfl, rfl⟩ := hrel
    by_cases hlt : k < n
    · have hsz : (repB s k).size + s.size ≤ 9223372036854775807 := by
        have h1 := repB_size s k
        have h2 : k * s.size ≤ 4096 * 4096 := Nat.mul_le_mul (by omega) hs
        omega
      have HT : Hid (repB s (k + 1) = repB s k ++ s) := rfl
      go_wp2
      first
        | exact ⟨⟨k + 1, by omega, by go_num, by rw [HT.out], trivial⟩, by simp [intOf]; omega⟩
        | (go_roundw
           case rel => exact ⟨k + 1, by omega, by go_num, by rw [HT.out], trivial⟩
           case measure => simp [intOf]; omega)
    · obtain rfl : k = n := by omega
      go_wp2
      go_ret
      exact ⟨rfl, rfl⟩
end Go.Proofs.YtopglhoobehgcaaDoor
