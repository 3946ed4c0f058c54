/- Package words: the states. -/
import Derived.Test.YtjgijbeedgggdaaGreatDoorWordM
namespace Go.Proofs.YtjgijbeedgggdaaGreatDoor
open Go Go.RowKit

theorem esc_p (c : UInt8) (w : World) : Calls Tryz.prog 174 #[.int .u8 c.toNat] w fun e w' => e = .returned (.int .u8 (escN c).toNat) ∧ w' = w := by
  have hc : ((c.toNat : Int) == 96) = (decide (c = 96)) := by
    by_cases h : c = 96
    · subst h; rfl
    · have : c.toNat ≠ 96 := fun e => h (UInt8.toNat_inj.1 e)
      simp [h]; omega
  unfold escN
  by_cases h : c = 96
  · subst h
    go_enter Tryz.func174, Tryz.ntmps174
    go_wp2
    go_ret
    exact ⟨rfl, rfl⟩
  · rw [if_neg h]
    rw [decide_eq_false h] at hc
    go_enter Tryz.func174, Tryz.ntmps174
    go_wp2
    go_ret
    exact ⟨rfl, rfl⟩
theorem word_p (k : Nat) (h : k ≤ 5) (w : World) : Calls Tryz.prog 176 #[.int .i64 k] w fun e w' => e = .returned (.bool (decide (k ≠ 0))) ∧ w' = w := by
  rcases k with _ | _ | _ | _ | _ | _ | k
  case succ.succ.succ.succ.succ.succ => omega
  all_goals
    go_enter Tryz.func176, Tryz.ntmps176
    go_wp2
    go_ret
    exact ⟨rfl, rfl⟩
theorem quot_p (k : Nat) (h : k ≤ 5) (w : World) : Calls Tryz.prog 177 #[.int .i64 k] w fun e w' => e = .returned (.bool (decide (3 ≤ k))) ∧ w' = w := by
  rcases k with _ | _ | _ | _ | _ | _ | k
  case succ.succ.succ.succ.succ.succ => omega
  all_goals
    go_enter Tryz.func177, Tryz.ntmps177
    go_wp2
    go_ret
    exact ⟨rfl, rfl⟩
theorem beq_u8 (b : UInt8) (n : Nat) (hn : n < 256) : ((b.toNat : Int) == (n : Int)) = decide (b = UInt8.ofNat n) := by
  by_cases h : b = UInt8.ofNat n
  · subst h; simp [UInt8.toNat_ofNat']; omega
  · have : b.toNat ≠ n := fun e => h (by rw [← e]; simp)
    rw [decide_eq_false h]; simp; omega
theorem beq_u88 (b c : UInt8) : ((b.toNat : Int) == (c.toNat : Int)) = decide (b = c) := by
  by_cases h : b = c
  · subst h; simp
  · have : b.toNat ≠ c.toNat := fun e => h (UInt8.toNat_inj.1 e)
    rw [decide_eq_false h]; simp; omega
theorem ended_p (k : Nat) (b q : UInt8) (w : World) : Calls Tryz.prog 190 #[.int .i64 k, .int .u8 b.toNat, .int .u8 q.toNat] w fun e w' => e = .returned (.int .i64 (if b = q then 1 else k : Nat)) ∧ w' = w := by
  have hc := beq_u88 b q
  by_cases h : b = q
  · rw [if_pos h]; rw [decide_eq_true h] at hc
    go_enter Tryz.func190, Tryz.ntmps190
    go_wp2
    go_ret
    exact ⟨rfl, rfl⟩
  · rw [if_neg h]; rw [decide_eq_false h] at hc
    go_enter Tryz.func190, Tryz.ntmps190
    go_wp2
    go_ret
    exact ⟨rfl, rfl⟩
set_option maxHeartbeats 1000000 in
theorem outside_p (b c : UInt8) (w : World) : Calls Tryz.prog 191 #[.int .u8 b.toNat, .int .u8 c.toNat] w fun e w' => e = .returned (.int .i64 (outN b c)) ∧ w' = w := by
  have h32 := beq_u8 b 32 (by decide)
  have h9 := beq_u8 b 9 (by decide)
  have h13 := beq_u8 b 13 (by decide)
  have h39 := beq_u8 b 39 (by decide)
  have h34 := beq_u8 b 34 (by decide)
  have hc := beq_u88 b c
  have HO : Hid (outN b c = if isBl b = true then 0 else if b = 39 then 3 else if b = 34 then 4 else if b = c then 2 else 1) := rfl
  have HB : Hid (isBl b = (b == 32 || b == 9 || b == 13)) := rfl
  generalize outN b c = r at *
  generalize isBl b = bl at *
  simp only [show UInt8.ofNat 32 = 32 from rfl, show UInt8.ofNat 9 = 9 from rfl, show UInt8.ofNat 13 = 13 from rfl, show UInt8.ofNat 39 = 39 from rfl, show UInt8.ofNat 34 = 34 from rfl] at h32 h9 h13 h39 h34
  have fin : ∀ {x y : Nat}, x = y → (Value.int .i64 (x : Int)) = .int .i64 (y : Int) := fun h => by rw [h]
  by_cases e1 : b = 32
  · rw [decide_eq_true e1] at h32
    obtain rfl : r = 0 := by rw [HO.out, HB.out]; simp [e1]
    go_enter Tryz.func191, Tryz.ntmps191
    go_wp2
    go_ret
    exact ⟨rfl, rfl⟩
  rw [decide_eq_false e1] at h32
  by_cases e2 : b = 9
  · rw [decide_eq_true e2] at h9
    obtain rfl : r = 0 := by rw [HO.out, HB.out]; simp [e2]
    go_enter Tryz.func191, Tryz.ntmps191
    go_wp2
    go_ret
    exact ⟨rfl, rfl⟩
  rw [decide_eq_false e2] at h9
  by_cases e3 : b = 13
  · rw [decide_eq_true e3] at h13
    obtain rfl : r = 0 := by rw [HO.out, HB.out]; simp [e3]
    go_enter Tryz.func191, Tryz.ntmps191
    go_wp2
    go_ret
    exact ⟨rfl, rfl⟩
  rw [decide_eq_false e3] at h13
  have hbl : bl = false := by rw [HB.out]; simp [e1, e2, e3]
  by_cases e4 : b = 39
  · rw [decide_eq_true e4] at h39
    obtain rfl : r = 3 := by rw [HO.out, hbl]; simp [e4]
    go_enter Tryz.func191, Tryz.ntmps191
    go_wp2
    go_ret
    exact ⟨rfl, rfl⟩
  rw [decide_eq_false e4] at h39
  by_cases e5 : b = 34
  · rw [decide_eq_true e5] at h34
    obtain rfl : r = 4 := by rw [HO.out, hbl]; simp [e5]
    go_enter Tryz.func191, Tryz.ntmps191
    go_wp2
    go_ret
    exact ⟨rfl, rfl⟩
  rw [decide_eq_false e5] at h34
  by_cases e6 : b = c
  · rw [decide_eq_true e6] at hc
    obtain rfl : r = 2 := by rw [HO.out, hbl]; simp [e4, e5]; exact e6
    go_enter Tryz.func191, Tryz.ntmps191
    go_wp2
    go_ret
    exact ⟨rfl, rfl⟩
  rw [decide_eq_false e6] at hc
  obtain rfl : r = 1 := by rw [HO.out, hbl]; simp [e4, e5, e6]
  go_enter Tryz.func191, Tryz.ntmps191
  go_wp2
  go_ret
  exact ⟨rfl, rfl⟩
set_option maxHeartbeats 1000000 in
theorem behind_p (k : Nat) (b c : UInt8) (h : k ≤ 5) (w : World) : Calls Tryz.prog 175 #[.int .i64 k, .int .u8 b.toNat, .int .u8 c.toNat] w fun e w' => e = .returned (.int .i64 (behN k b c)) ∧ w' = w := by
  have hc := beq_u88 b c
  have hE := fun k q => ended_p k b q w
  have hO := outside_p b c w
  rcases k with _ | _ | _ | _ | _ | _ | k
  case succ.succ.succ.succ.succ.succ => omega
  · go_enter Tryz.func175, Tryz.ntmps175
    go_wp2_with (go_at_call 191; refine hO.mono ?_; rintro e w' ⟨rfl, rfl⟩)
    go_ret
    exact ⟨rfl, rfl⟩
  · go_enter Tryz.func175, Tryz.ntmps175
    go_wp2_with (go_at_call 191; refine hO.mono ?_; rintro e w' ⟨rfl, rfl⟩)
    go_ret
    exact ⟨rfl, rfl⟩
  · go_enter Tryz.func175, Tryz.ntmps175
    go_wp2
    go_ret
    exact ⟨rfl, rfl⟩
  · have h3 := hE 3 39
    have hr : (if b = 39 then 1 else 3 : Nat) = behN 3 b c := rfl
    rw [hr] at h3
    show Calls _ _ _ _ fun e w' => e = .returned (.int .i64 (behN 3 b c)) ∧ _
    generalize behN 3 b c = r at *
    clear hr
    go_enter Tryz.func175, Tryz.ntmps175
    go_wp2_with (go_at_call 190; refine h3.mono ?_; rintro e w' ⟨rfl, rfl⟩)
    go_ret
    exact ⟨rfl, rfl⟩
  · by_cases e1 : b = c
    · have hr : behN 4 b c = 5 := by simp [behN, e1]
      rw [decide_eq_true e1] at hc
      show Calls _ _ _ _ fun e w' => e = .returned (.int .i64 (behN 4 b c)) ∧ _
      rw [hr]
      go_enter Tryz.func175, Tryz.ntmps175
      go_wp2
      go_ret
      exact ⟨rfl, rfl⟩
    · have hr : behN 4 b c = if b = 34 then 1 else 4 := by simp [behN, e1]
      rw [decide_eq_false e1] at hc
      have h3 := hE 4 34
      rw [← hr] at h3
      show Calls _ _ _ _ fun e w' => e = .returned (.int .i64 (behN 4 b c)) ∧ _
      generalize behN 4 b c = r at *
      clear hr
      go_enter Tryz.func175, Tryz.ntmps175
      go_wp2_with (go_at_call 190; refine h3.mono ?_; rintro e w' ⟨rfl, rfl⟩)
      go_ret
      exact ⟨rfl, rfl⟩
  · go_enter Tryz.func175, Tryz.ntmps175
    go_wp2
    go_ret
    exact ⟨rfl, rfl⟩
end Go.Proofs.YtjgijbeedgggdaaGreatDoor
