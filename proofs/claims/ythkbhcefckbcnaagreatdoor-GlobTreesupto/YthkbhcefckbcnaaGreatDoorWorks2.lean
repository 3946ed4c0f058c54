/- What every statement of layer 2 asks: three calls at fixed texts, all of which come out as they should. -/
import Derived.Test.YthkbhcefckbcnaaGreatDoorTakeN
import Derived.Test.YthkbhcefckbcnaaGreatDoorPlain
import Derived.Test.YthkbhcefckbcnaaGreatDoorNamesM
namespace Go.Proofs.YthkbhcefckbcnaaGreatDoor
open Go.RowKit

theorem v_m1 : matchB ⟨#[97, 42, 99]⟩ ⟨#[97, 98, 98, 99]⟩ = true := by decide +kernel
theorem v_m2 : matchB ⟨#[97, 42, 99]⟩ ⟨#[97, 98, 98]⟩ = false := by decide +kernel
theorem v_m3 : matchB ⟨#[91, 97]⟩ ⟨#[97]⟩ = false := by decide +kernel
theorem v_p1 : (patOf ⟨#[97, 42, 99]⟩).isNone = false := by decide +kernel
theorem v_p3 : (patOf ⟨#[91, 97]⟩).isNone = true := by decide +kernel
theorem perr_ok {p : ByteArray} (h : (patOf p).isNone = false) : perr p = .nilIface := by unfold perr; rw [h]; rfl
theorem perr_bad {p : ByteArray} (h : (patOf p).isNone = true) : perr p = .iface 56 (.int .i64 24) := by unfold perr; rw [h]; rfl
theorem c_m1 (w : World) : Calls Tryz.prog 29 #[.string ⟨#[97, 42, 99]⟩, .string ⟨#[97, 98, 98, 99]⟩] w fun e w' => e = .returned (.tuple #[.bool true, .nilIface]) ∧ Below w.heap.size w w' := by
  have h := match_p ⟨#[97, 42, 99]⟩ ⟨#[97, 98, 98, 99]⟩ w (by decide) (by decide); rw [v_m1, perr_ok v_p1] at h; exact h
theorem c_m2 (w : World) : Calls Tryz.prog 29 #[.string ⟨#[97, 42, 99]⟩, .string ⟨#[97, 98, 98]⟩] w fun e w' => e = .returned (.tuple #[.bool false, .nilIface]) ∧ Below w.heap.size w w' := by
  have h := match_p ⟨#[97, 42, 99]⟩ ⟨#[97, 98, 98]⟩ w (by decide) (by decide); rw [v_m2, perr_ok v_p1] at h; exact h
theorem c_m3 (w : World) : Calls Tryz.prog 29 #[.string ⟨#[91, 97]⟩, .string ⟨#[97]⟩] w fun e w' => e = .returned (.tuple #[.bool false, .iface 56 (.int .i64 24)]) ∧ Below w.heap.size w w' := by
  have h := match_p ⟨#[91, 97]⟩ ⟨#[97]⟩ w (by decide) (by decide); rw [v_m3, perr_bad v_p3] at h; exact h
theorem below_join2 {w w1 w2 : World} (h : Below w.heap.size w w1) (k : Below w1.heap.size w1 w2) : Below w.heap.size w w2 := h.trans (k.mono h.size)

set_option maxHeartbeats 1000000 in
theorem works2_p (w : World) (hg : ErrType w) : Calls Tryz.prog 9 #[] w fun e w' => e = .returned (.bool true) ∧ Below w.heap.size w w' := by
  go_enter Tryz.func9, Tryz.ntmps9
  go_wp2_with fail
  refine (c_m1 _).mono ?_
  rintro e w1 ⟨rfl, b1⟩
  go_wp2_with fail
  refine (c_m2 _).mono ?_
  rintro e w2 ⟨rfl, b2⟩
  replace b2 := below_join2 b1 b2
  clear b1
  go_wp2_with fail
  refine (c_m3 _).mono ?_
  rintro e w3 ⟨rfl, b3⟩
  replace b3 := below_join2 b2 b3
  clear b2
  go_wp2_with fail
  refine (plain_some 24 (by decide) (by decide) _ (hg.below b3)).mono ?_
  rintro e w4 ⟨rfl, b4⟩
  replace b4 := below_join2 b3 b4
  clear b3
  go_wp2_with fail
  go_ret
  exact ⟨rfl, b4⟩
end Go.Proofs.YthkbhcefckbcnaaGreatDoor
