/- The statements' own times: the same text so many times. -/
import Derived.Test.YtgdkgdlgalinbaaGreatDoorBaseU
namespace Go.Proofs.YtgdkgdlgalinbaaGreatDoor
open Go Go.RowKit

def timesL (l : List UInt8) (n : Nat) : List UInt8 := (List.replicate n l).flatten
theorem timesL_succ (l : List UInt8) (n : Nat) : timesL l (n + 1) = timesL l n ++ l := by
  unfold timesL; rw [List.replicate_succ', List.flatten_append]; simp
theorem timesL_length (l : List UInt8) (n : Nat) : (timesL l n).length = n * l.length := by
  induction n with
  | zero => simp [timesL]
  | succ n ih => rw [timesL_succ, List.length_append, ih, Nat.succ_mul]
set_option maxRecDepth 100000 in
set_option maxHeartbeats 1000000 in
theorem times_p (s : ByteArray) (n : Nat) (hn : n ≤ 1000) (hs : s.size ≤ 1000) (w : World) : Calls Tryz.prog 8 #[.string s, .int .i64 n] w fun e w' => e = .returned (.string (bs (timesL (un s) n))) ∧ w' = w := by
  go_enter Tryz.func8, Tryz.ntmps8
  go_wp2
  go_loopw [5, 6] (fun t i wr => ∃ k : Nat, k ≤ n ∧ i = .int .i64 k ∧ t = .string (bs (timesL (un s) k)) ∧ wr = w) (fun _ i _ => n - (intOf i).toNat)
  case atStart => exact ⟨0, by omega, rfl, rfl, rfl⟩
  case round =>
    obtain ⟨k, hk, rfl, rfl, rfl⟩ := hrel
    by_cases hlt : k < n
    · have hlt' : (k : Int) < (n : Int) := by omega
      have HA : Hid (bs (timesL (un s) k) ++ s = bs (timesL (un s) (k + 1))) := by
        unfold Hid; apply un_inj; rw [un_append, un_bs, un_bs, timesL_succ]
      have hz : (bs (timesL (un s) k)).size ≤ 1000000 := by
        rw [size_bs, timesL_length, un_length]
        exact Nat.le_trans (Nat.mul_le_mul (Nat.le_trans hk hn) hs) (by decide)
      generalize bs (timesL (un s) k) = T at *
      go_wp2
      exact ⟨⟨k + 1, by omega, by go_num, by rw [HA.out], by first | rfl | trivial⟩, by simp [intOf]; omega⟩
    · obtain rfl : k = n := by omega
      go_wp2
      go_ret
      exact ⟨rfl, rfl⟩
end Go.Proofs.YtgdkgdlgalinbaaGreatDoor
