/- Numbers of 32 bits: turned, shifted, put together; a block's numbers. -/
import Derived.Test.YtodgcmhkojkpcaaGreatDoorBytes
import Derived.Laws.BitsAllLaws
namespace Go.Proofs.YtodgcmhkojkpcaaGreatDoor
open Go Go.RowKit

/-- Turned to the right by n. -/
def rotI (x : Int) (n : Nat) : Int := bits .or .u32 (x * ((2 ^ (32 - n) : Nat) : Int) % 4294967296) (x / ((2 ^ n : Nat) : Int))
def xor3 (x y z : Int) : Int := bits .xor .u32 (bits .xor .u32 x y) z
def S0 (x : Int) : Int := xor3 (rotI x 2) (rotI x 13) (rotI x 22)
def S1 (x : Int) : Int := xor3 (rotI x 6) (rotI x 11) (rotI x 25)
def s0 (x : Int) : Int := xor3 (rotI x 7) (rotI x 18) (x / 8)
def s1 (x : Int) : Int := xor3 (rotI x 17) (rotI x 19) (x / 1024)

theorem turn_2 (x : Int) (w : World) : Calls Tryz.prog 83 #[.int .u32 x, .int .i64 2] w fun e w' => e = .returned (.int .u32 (rotI x 2)) ∧ w' = w := by
  have hb : bits .and .u64 (IntKind.u64.wrap (-2)) 31 = 30 := by decide +kernel
  go_enter Tryz.func83, Tryz.ntmps83
  go_wp2
  go_ret
  exact ⟨rfl, rfl⟩
theorem turn_6 (x : Int) (w : World) : Calls Tryz.prog 83 #[.int .u32 x, .int .i64 6] w fun e w' => e = .returned (.int .u32 (rotI x 6)) ∧ w' = w := by
  have hb : bits .and .u64 (IntKind.u64.wrap (-6)) 31 = 26 := by decide +kernel
  go_enter Tryz.func83, Tryz.ntmps83
  go_wp2
  go_ret
  exact ⟨rfl, rfl⟩
theorem turn_7 (x : Int) (w : World) : Calls Tryz.prog 83 #[.int .u32 x, .int .i64 7] w fun e w' => e = .returned (.int .u32 (rotI x 7)) ∧ w' = w := by
  have hb : bits .and .u64 (IntKind.u64.wrap (-7)) 31 = 25 := by decide +kernel
  go_enter Tryz.func83, Tryz.ntmps83
  go_wp2
  go_ret
  exact ⟨rfl, rfl⟩
theorem turn_11 (x : Int) (w : World) : Calls Tryz.prog 83 #[.int .u32 x, .int .i64 11] w fun e w' => e = .returned (.int .u32 (rotI x 11)) ∧ w' = w := by
  have hb : bits .and .u64 (IntKind.u64.wrap (-11)) 31 = 21 := by decide +kernel
  go_enter Tryz.func83, Tryz.ntmps83
  go_wp2
  go_ret
  exact ⟨rfl, rfl⟩
theorem turn_13 (x : Int) (w : World) : Calls Tryz.prog 83 #[.int .u32 x, .int .i64 13] w fun e w' => e = .returned (.int .u32 (rotI x 13)) ∧ w' = w := by
  have hb : bits .and .u64 (IntKind.u64.wrap (-13)) 31 = 19 := by decide +kernel
  go_enter Tryz.func83, Tryz.ntmps83
  go_wp2
  go_ret
  exact ⟨rfl, rfl⟩
theorem turn_17 (x : Int) (w : World) : Calls Tryz.prog 83 #[.int .u32 x, .int .i64 17] w fun e w' => e = .returned (.int .u32 (rotI x 17)) ∧ w' = w := by
  have hb : bits .and .u64 (IntKind.u64.wrap (-17)) 31 = 15 := by decide +kernel
  go_enter Tryz.func83, Tryz.ntmps83
  go_wp2
  go_ret
  exact ⟨rfl, rfl⟩
theorem turn_18 (x : Int) (w : World) : Calls Tryz.prog 83 #[.int .u32 x, .int .i64 18] w fun e w' => e = .returned (.int .u32 (rotI x 18)) ∧ w' = w := by
  have hb : bits .and .u64 (IntKind.u64.wrap (-18)) 31 = 14 := by decide +kernel
  go_enter Tryz.func83, Tryz.ntmps83
  go_wp2
  go_ret
  exact ⟨rfl, rfl⟩
theorem turn_19 (x : Int) (w : World) : Calls Tryz.prog 83 #[.int .u32 x, .int .i64 19] w fun e w' => e = .returned (.int .u32 (rotI x 19)) ∧ w' = w := by
  have hb : bits .and .u64 (IntKind.u64.wrap (-19)) 31 = 13 := by decide +kernel
  go_enter Tryz.func83, Tryz.ntmps83
  go_wp2
  go_ret
  exact ⟨rfl, rfl⟩
theorem turn_22 (x : Int) (w : World) : Calls Tryz.prog 83 #[.int .u32 x, .int .i64 22] w fun e w' => e = .returned (.int .u32 (rotI x 22)) ∧ w' = w := by
  have hb : bits .and .u64 (IntKind.u64.wrap (-22)) 31 = 10 := by decide +kernel
  go_enter Tryz.func83, Tryz.ntmps83
  go_wp2
  go_ret
  exact ⟨rfl, rfl⟩
theorem turn_25 (x : Int) (w : World) : Calls Tryz.prog 83 #[.int .u32 x, .int .i64 25] w fun e w' => e = .returned (.int .u32 (rotI x 25)) ∧ w' = w := by
  have hb : bits .and .u64 (IntKind.u64.wrap (-25)) 31 = 7 := by decide +kernel
  go_enter Tryz.func83, Tryz.ntmps83
  go_wp2
  go_ret
  exact ⟨rfl, rfl⟩
theorem turnHigh_p (x : Int) (w : World) : Calls Tryz.prog 69 #[.int .u32 x] w fun e w' => e = .returned (.int .u32 (S0 x)) ∧ w' = w := by
  go_enter Tryz.func69, Tryz.ntmps69
  go_wp2_with fail
  refine (turn_2 x _).mono ?_
  rintro e w2 ⟨rfl, hw2⟩
  subst hw2
  go_wp2_with fail
  refine (turn_13 x _).mono ?_
  rintro e w13 ⟨rfl, hw13⟩
  subst hw13
  go_wp2_with fail
  refine (turn_22 x _).mono ?_
  rintro e w22 ⟨rfl, hw22⟩
  subst hw22
  go_wp2
  go_ret
  exact ⟨rfl, rfl⟩
theorem turnLow_p (x : Int) (w : World) : Calls Tryz.prog 68 #[.int .u32 x] w fun e w' => e = .returned (.int .u32 (S1 x)) ∧ w' = w := by
  go_enter Tryz.func68, Tryz.ntmps68
  go_wp2_with fail
  refine (turn_6 x _).mono ?_
  rintro e w6 ⟨rfl, hw6⟩
  subst hw6
  go_wp2_with fail
  refine (turn_11 x _).mono ?_
  rintro e w11 ⟨rfl, hw11⟩
  subst hw11
  go_wp2_with fail
  refine (turn_25 x _).mono ?_
  rintro e w25 ⟨rfl, hw25⟩
  subst hw25
  go_wp2
  go_ret
  exact ⟨rfl, rfl⟩
theorem shiftHigh_p (x : Int) (w : World) : Calls Tryz.prog 82 #[.int .u32 x] w fun e w' => e = .returned (.int .u32 (s0 x)) ∧ w' = w := by
  go_enter Tryz.func82, Tryz.ntmps82
  go_wp2_with fail
  refine (turn_7 x _).mono ?_
  rintro e w7 ⟨rfl, hw7⟩
  subst hw7
  go_wp2_with fail
  refine (turn_18 x _).mono ?_
  rintro e w18 ⟨rfl, hw18⟩
  subst hw18
  go_wp2
  go_ret
  exact ⟨rfl, rfl⟩
theorem shiftLow_p (x : Int) (w : World) : Calls Tryz.prog 81 #[.int .u32 x] w fun e w' => e = .returned (.int .u32 (s1 x)) ∧ w' = w := by
  go_enter Tryz.func81, Tryz.ntmps81
  go_wp2_with fail
  refine (turn_17 x _).mono ?_
  rintro e w17 ⟨rfl, hw17⟩
  subst hw17
  go_wp2_with fail
  refine (turn_19 x _).mono ?_
  rintro e w19 ⟨rfl, hw19⟩
  subst hw19
  go_wp2
  go_ret
  exact ⟨rfl, rfl⟩
end Go.Proofs.YtodgcmhkojkpcaaGreatDoor
