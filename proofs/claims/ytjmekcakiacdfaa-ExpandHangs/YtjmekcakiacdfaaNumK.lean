/- The kit's Num and Plain: at nil they are 0 and true at 0; at an error of the integer type with a number from 1 to 32 they are that number and true at it. -/
import Derived.Test.YtjmekcakiacdfaaErr
namespace Go.Proofs.Ytjmekcakiacdfaa
open Go.RowKit Go.Extern.Stop Go.Stop Go.Extern

theorem num_nil (w : World) : Calls Try.prog 14 #[.nilIface] w fun e w' => e = .returned (.int .i64 0) ∧ w' = w := by
  go_enter Try.func14, Try.ntmps14
  go_wp2
  go_ret
  exact ⟨rfl, rfl⟩

set_option maxHeartbeats 400000 in
theorem num_some (a : Int) (h1 : 1 ≤ a) (h2 : a ≤ 32) (w : World) : Calls Try.prog 14 #[.iface 61 (.int .i64 a)] w fun e w' => e = .returned (.int .i64 a) ∧ w' = w := by
  go_enter Try.func14, Try.ntmps14
  go_wp2
  go_loop [3, 4] (fun f n => ∃ k : Int, 1 ≤ k ∧ k ≤ 33 ∧ n = .int .i64 k ∧ f = .int .i64 (if a < k then a else 0)) (fun _ n => (33 - intOf n).toNat)
  case atStart => exact ⟨1, by omega, by omega, rfl, by rw [if_neg (by omega)]⟩
  case round =>
    obtain ⟨k, hk1, hk2, rfl, rfl⟩ := hrel
    by_cases hlt : k ≤ 32
    · rcases Int.lt_trichotomy a k with h | h | h
      · have hne : (a == k) = false := by simp; omega
        rw [if_pos h]
        go_wp2_with (go_at_call 23; refine (is_other a k _ hne).mono ?_; rintro e w' ⟨rfl, rfl⟩)
        go_round
        case rel => exact ⟨k + 1, by omega, by omega, rfl, by rw [if_pos (by omega)]⟩
        case measure => simp [intOf]; omega
      · subst h
        rw [if_neg (by omega)]
        go_wp2_with (go_at_call 23; refine (is_same a _).mono ?_; rintro e w' ⟨rfl, rfl⟩)
        go_round
        case rel => exact ⟨a + 1, by omega, by omega, rfl, by rw [if_pos (by omega)]⟩
        case measure => simp [intOf]; omega
      · have hne : (a == k) = false := by simp; omega
        rw [if_neg (by omega)]
        go_wp2_with (go_at_call 23; refine (is_other a k _ hne).mono ?_; rintro e w' ⟨rfl, rfl⟩)
        go_round
        case rel => exact ⟨k + 1, by omega, by omega, rfl, by rw [if_neg (by omega)]⟩
        case measure => simp [intOf]; omega
    · have hne : (a == 0) = false := by simp; omega
      have hle : ¬ k ≤ 32 := hlt
      rw [if_pos (by omega)]
      go_wp2_with (go_at_call 23; refine (is_other a 0 _ hne).mono ?_; rintro e w' ⟨rfl, rfl⟩)
      go_ret
      exact ⟨rfl, rfl⟩

end Go.Proofs.Ytjmekcakiacdfaa
