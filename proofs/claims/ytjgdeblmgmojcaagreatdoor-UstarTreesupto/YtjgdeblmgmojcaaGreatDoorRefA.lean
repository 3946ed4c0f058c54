/- The document's answer for parents, last names and what is put together. -/
import Derived.Test.YtjgdeblmgmojcaaGreatDoorSpec
import Derived.Test.YtjgdeblmgmojcaaGreatDoorProg
import Derived.WalkKit
import Derived.WalkSpells
namespace Go.Proofs.YtjgdeblmgmojcaaGreatDoor
open Go.RowKit

theorem lastIdx_succ (s : ByteArray) (k : Nat) (h : k < s.size) : Lib.lastIdx s 47 (k + 1) = if s[k].toNat = 47 then (k : Int) else Lib.lastIdx s 47 k := by
  have e : s.data[k]! = s[k] := by
    have h2 : k < s.data.size := h
    exact getElem!_pos s.data k h2
  simp only [Lib.lastIdx, e]
  by_cases hc : s[k].toNat = 47
  · rw [if_pos (by omega), if_pos hc]
  · rw [if_neg (by omega), if_neg hc]

set_option maxHeartbeats 400000 in
theorem slash_r (s : ByteArray) (w : World) (hs : s.size ≤ 9223372036854775806) : Calls Tryz.prog 25 #[.string s] w fun e w' => e = .returned (.int .i64 (Lib.lastIndexByte s 47)) ∧ w' = w := by
  go_enter Tryz.func25, Tryz.ntmps25
  go_wp2
  go_loop [3, 4] (fun a i => ∃ k : Nat, k ≤ s.size ∧ i = .int .i64 k ∧ a = .int .i64 (Lib.lastIdx s 47 k)) (fun _ i => s.size - (intOf i).toNat)
  case atStart => exact ⟨0, Nat.zero_le _, rfl, rfl⟩
  case round =>
    obtain ⟨k, hk, rfl, rfl⟩ := hrel
    by_cases hlt : k < s.size
    · have hsn : Hid _ := lastIdx_succ s k hlt
      by_cases hc : s[k].toNat = 47
      · go_wp2
        all_goals
          go_round
          case rel => exact ⟨k + 1, by omega, by go_num, by rw [hsn.out, if_pos hc]⟩
          case measure => simp [intOf]; omega
      · go_wp2
        all_goals
          go_round
          case rel => exact ⟨k + 1, by omega, by go_num, by rw [hsn.out, if_neg hc]⟩
          case measure => simp [intOf]; omega
    · go_wp2
      go_ret
      obtain rfl : k = s.size := by omega
      exact ⟨rfl, rfl⟩

theorem join_r (a b : ByteArray) (w : World) (hs : a.size + 1 + b.size ≤ 9223372036854775807) : Calls Tryz.prog 8 #[.string a, .string b] w fun e w' => e = .returned (.string (joinB a b)) ∧ w' = w := by
  cases h : a.toList.isEmpty
  · go_enter Tryz.func8, Tryz.ntmps8
    go_wp2
    go_ret
    exact ⟨by simp [joinB, h], rfl⟩
  · go_enter Tryz.func8, Tryz.ntmps8
    go_wp2
    go_ret
    exact ⟨by simp [joinB, h], rfl⟩
theorem parent_r (a : ByteArray) (w : World) (hs : a.size < 4611686018427387904) : Calls Tryz.prog 9 #[.string a] w fun e w' => e = .returned (.string (parentB a)) ∧ w' = w := by
  have hr := lastIndexByte_range a 47
  by_cases h : Lib.lastIndexByte a 47 < 0
  · go_enter Tryz.func9, Tryz.ntmps9
    go_wp2_with (go_at_call 25; refine (slash_r _ _ (by omega)).mono ?_; rintro e w' ⟨rfl, rfl⟩)
    go_ret
    exact ⟨by simp [parentB, h], rfl⟩
  · go_enter Tryz.func9, Tryz.ntmps9
    go_wp2_with (go_at_call 25; refine (slash_r _ _ (by omega)).mono ?_; rintro e w' ⟨rfl, rfl⟩)
    go_ret
    exact ⟨by unfold parentB; rw [if_neg (by omega)]; rfl, rfl⟩
theorem last_r (a : ByteArray) (w : World) (hs : a.size < 4611686018427387904) : Calls Tryz.prog 10 #[.string a] w fun e w' => e = .returned (.string (lastB a)) ∧ w' = w := by
  have hr := lastIndexByte_range a 47
  go_enter Tryz.func10, Tryz.ntmps10
  go_wp2_with (go_at_call 25; refine (slash_r _ _ (by omega)).mono ?_; rintro e w' ⟨rfl, rfl⟩)
  go_ret
  exact ⟨by simp [lastB], rfl⟩
end Go.Proofs.YtjgdeblmgmojcaaGreatDoor
