/- The kit's Num and Plain: at nil they are 0 and true at 0; at an error of the integer type with a number from 1 to 32 they are that number and true at it. -/
import Derived.Test.YtbmakfdljddhcaaGreatDoorAs
namespace Go.Proofs.YtbmakfdljddhcaaGreatDoor
open Go.RowKit Go.Extern.Stop Go.Stop Go.Extern

theorem num_nil (w : World) : Calls Tryz.prog 10 #[.nilIface] w fun e w' => e = .returned (.int .i64 0) ∧ w' = w := by
  go_enter Tryz.func10, Tryz.ntmps10
  go_wp2
  go_ret
  exact ⟨rfl, rfl⟩

set_option maxHeartbeats 400000 in
theorem num_some (a : Int) (h1 : 1 ≤ a) (h2 : a ≤ 32) (w : World) : Calls Tryz.prog 10 #[.iface 32 (.int .i64 a)] w fun e w' => e = .returned (.int .i64 a) ∧ w' = w := by
  go_enter Tryz.func10, Tryz.ntmps10
  go_wp2
  go_loop [3, 4] (fun f n => ∃ k : Int, 1 ≤ k ∧ k ≤ 33 ∧ n = .int .i64 k ∧ f = .int .i64 (if a < k then a else 0)) (fun _ n => (33 - intOf n).toNat)
  case atStart => exact ⟨1, by omega, by omega, rfl, by rw [if_neg (by omega)]⟩
  case round =>
    obtain ⟨k, hk1, hk2, rfl, rfl⟩ := hrel
    by_cases hlt : k ≤ 32
    · rcases Int.lt_trichotomy a k with h | h | h
      · have hne : (a == k) = false := by simp; omega
        rw [if_pos h]
        go_wp2_with (go_at_call 18; refine (is_other a k _ hne).mono ?_; rintro e w' ⟨rfl, rfl⟩)
        go_round
        case rel => exact ⟨k + 1, by omega, by omega, rfl, by rw [if_pos (by omega)]⟩
        case measure => simp [intOf]; omega
      · subst h
        rw [if_neg (by omega)]
        go_wp2_with (go_at_call 18; refine (is_same a _).mono ?_; rintro e w' ⟨rfl, rfl⟩)
        go_round
        case rel => exact ⟨a + 1, by omega, by omega, rfl, by rw [if_pos (by omega)]⟩
        case measure => simp [intOf]; omega
      · have hne : (a == k) = false := by simp; omega
        rw [if_neg (by omega)]
        go_wp2_with (go_at_call 18; refine (is_other a k _ hne).mono ?_; rintro e w' ⟨rfl, rfl⟩)
        go_round
        case rel => exact ⟨k + 1, by omega, by omega, rfl, by rw [if_neg (by omega)]⟩
        case measure => simp [intOf]; omega
    · have hne : (a == 0) = false := by simp; omega
      have hle : ¬ k ≤ 32 := hlt
      rw [if_pos (by omega)]
      go_wp2_with (go_at_call 18; refine (is_other a 0 _ hne).mono ?_; rintro e w' ⟨rfl, rfl⟩)
      go_ret
      exact ⟨rfl, rfl⟩

theorem plain_nil (w : World) : Calls Tryz.prog 6 #[.nilIface, .int .i64 0] w fun e w' => e = .returned (.bool true) ∧ Below w.heap.size w w' := by
  go_enter Tryz.func6, Tryz.ntmps6
  go_wp2_with (go_at_call 10; refine (num_nil _).mono ?_; rintro e w' ⟨rfl, rfl⟩)
  go_ret
  exact ⟨rfl, (Below.refl _ _).alloc (Nat.le_refl _) _⟩

/-- What the listed variable holds: the handle of type error. -/
def ErrType (w : World) : Prop := w.cell? ⟨0, 0, none⟩ = some (.iface 78 (.agg #[.pointer (some ⟨4, 25, none⟩)]))
theorem ErrType.lt {w : World} (h : ErrType w) : 0 < w.heap.size := by
  unfold ErrType at h
  rcases Nat.lt_or_ge 0 w.heap.size with h' | h'
  · exact h'
  · simp [World.cell?, Array.getElem?_eq_none h'] at h
theorem ErrType.below {w w' : World} (h : ErrType w) (hb : Below w.heap.size w w') : ErrType w' := by
  unfold ErrType
  rw [hb.cell (p := ⟨0, 0, none⟩) h.lt]; exact h

set_option maxHeartbeats 400000 in
theorem plain_some (a : Int) (h1 : 1 ≤ a) (h2 : a ≤ 32) (w : World) (hg : ErrType w) : Calls Tryz.prog 6 #[.iface 32 (.int .i64 a), .int .i64 a] w fun e w' => e = .returned (.bool true) ∧ Below w.heap.size w w' := by
  have haa : (a == a) = true := by simp
  go_enter Tryz.func6, Tryz.ntmps6
  go_wp2_with (first | (go_at_call 10; refine (num_some a h1 h2 _).mono ?_; rintro e w' ⟨rfl, rfl⟩) | (go_at_call 11; refine (as_miss a _ _ (hg.below ((Below.refl _ _).alloc (Nat.le_refl _) _))).mono ?_; rintro e w' ⟨rfl, rfl⟩))
  go_ret
  exact ⟨rfl, ((((Below.refl _ _).alloc (Nat.le_refl _) _).alloc (by simp) _).alloc (by simp; omega) _).alloc (by simp; omega) _⟩
end Go.Proofs.YtbmakfdljddhcaaGreatDoor
