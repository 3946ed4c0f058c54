/- Package ustar's textsFit. -/
import Derived.Test.YtgdkgdlgalinbaaGreatDoorHdU
import Derived.Test.YtgdkgdlgalinbaaGreatDoorShU
namespace Go.Proofs.YtgdkgdlgalinbaaGreatDoor
open Go Go.RowKit

def noZ (s : ByteArray) : Bool := decide (Lib.indexByte (un s) 0 < 0)
def sOf (h : Hd) (k : Nat) : ByteArray := [h.path, h.link, h.user, h.group].getD k ⟨#[]⟩
def fitB (h : Hd) : Bool := noZ h.path && noZ h.link && noZ h.user && noZ h.group && decide (h.user.size < 32) && decide (h.group.size < 32)
theorem sOf_at (h : Hd) (k : Nat) (hk : k < 4) (w : World) : (Instr.index 82 (.agg #[.string h.path, .string h.link, .string h.user, .string h.group]) (.int .i64 k)).run Tryz.prog w = .ok (.string (sOf h k)) w :=
  run_index_arr k Tryz.underlying82 (by kernel_rfl) (by kernel_rfl) hk (by
    obtain rfl | rfl | rfl | rfl : k = 0 ∨ k = 1 ∨ k = 2 ∨ k = 3 := by omega
    all_goals rfl)
set_option maxRecDepth 100000 in
set_option maxHeartbeats 1000000 in
theorem textsFit_p (S : Shelf5) (h : Hd) (w : World) (hb : BTab w) : Calls Tryz.prog 17 #[.agg (hcs h)] w fun e w' => e = .returned (.bool (fitB h)) ∧ Below w.heap.size w w' := by
  have L0 := Lies.new w 28 (hcs h)
  have B0 := (Below.refl _ w).alloc (Nat.le_refl _) (.cells (hcs h) 28)
  have T0 := hb.below B0
  have hix := fun k hk W => sOf_at h k hk W
  have HIX : Hid _ := hix
  have HS : Hid Shelf5 := S
  have HF : Hid (fitB h = (noZ (sOf h 0) && noZ (sOf h 1) && noZ (sOf h 2) && noZ (sOf h 3) && decide (h.user.size < 32) && decide (h.group.size < 32))) := rfl
  have c0 : (w.alloc (.cells (hcs h) 28)).cell? ⟨w.heap.size, 0, none⟩ = some (.string h.path) := L0.cell rfl
  have c7 : (w.alloc (.cells (hcs h) 28)).cell? ⟨w.heap.size, 7, none⟩ = some (.string h.link) := L0.cell rfl
  have c8 : (w.alloc (.cells (hcs h) 28)).cell? ⟨w.heap.size, 8, none⟩ = some (.string h.user) := L0.cell rfl
  have c9 : (w.alloc (.cells (hcs h) 28)).cell? ⟨w.heap.size, 9, none⟩ = some (.string h.group) := L0.cell rfl
  clear hix S hb
  go_enter Tryz.func17, Tryz.ntmps17
  go_wp2
  generalize w.alloc (.cells (hcs h) 28) = W at *
  have HU : Hid (sOf h 2 = h.user) := rfl
  have HG : Hid (sOf h 3 = h.group) := rfl
  go_loopw [14] (fun n wr => ∃ k : Nat, k ≤ 4 ∧ n = .int .i64 k ∧ (∀ j, j < k → noZ (sOf h j) = true) ∧ wr = W) (fun n _ => 4 - (intOf n).toNat)
  case atStart => exact ⟨0, by omega, rfl, fun j hj => absurd hj (by omega), rfl⟩
  case round =>
    obtain ⟨k, hk, rfl, hall, rfl⟩ := hrel
    have HA : Hid (∀ j, j < k → noZ (sOf h j) = true) := hall
    clear hall
    by_cases hlt : k < 4
    · have hi := HIX.out k hlt
      have hidx := HS.out.idx (sOf h k)
      by_cases hz : Lib.indexByte (un (sOf h k)) 0 < 0
      · have HZ : Hid (noZ (sOf h k) = true) := by unfold Hid noZ; exact decide_eq_true hz
        generalize Lib.indexByte (un (sOf h k)) 0 = y at *
        obtain ⟨s, hsk⟩ : ∃ s, sOf h k = s := ⟨_, rfl⟩
        have HK : Hid (sOf h k = s) := hsk
        rw [hsk] at hi hidx HZ
        clear hsk
        go_wp2_with (go_at_call 41; refine (hidx _).mono ?_; rintro e w1 ⟨rfl, rfl⟩)
        refine ⟨⟨k + 1, by omega, by go_num, fun j hj => ?_, trivial⟩, by simp [intOf]; omega⟩
        rcases Nat.lt_or_ge j k with h1 | h1
        · exact HA.out j h1
        · obtain rfl : j = k := by omega
          rw [HK.out]; exact HZ.out
      · have HZ : Hid (noZ (sOf h k) = false) := by unfold Hid noZ; exact decide_eq_false hz
        have HFF : Hid (fitB h = false) := by
          unfold Hid
          rw [HF.out]
          obtain rfl | rfl | rfl | rfl : k = 0 ∨ k = 1 ∨ k = 2 ∨ k = 3 := by omega
          all_goals rw [HZ.out]; simp
        generalize Lib.indexByte (un (sOf h k)) 0 = y at *
        generalize sOf h k = s at *
        go_wp2_with (go_at_call 41; refine (hidx _).mono ?_; rintro e w1 ⟨rfl, rfl⟩)
        go_ret
        exact ⟨by rw [HFF.out]; rfl, B0⟩
    · obtain rfl : k = 4 := by omega
      have h10 : ∀ n, Calls Tryz.prog 19 #[.int .i64 10] (wr.drewN n) fun e w' => e = .returned (.int .i64 32) ∧ ∃ m, w' = (wr.drewN n).drewN m := fun n => room_p 10 (by omega) (wr.drewN n) T0
      have h11 : ∀ n, Calls Tryz.prog 19 #[.int .i64 11] (wr.drewN n) fun e w' => e = .returned (.int .i64 32) ∧ ∃ m, w' = (wr.drewN n).drewN m := fun n => room_p 11 (by omega) (wr.drewN n) T0
      have HV : Hid (fitB h = (decide (h.user.size < 32) && decide (h.group.size < 32))) := by
        unfold Hid; rw [HF.out, HA.out 0 (by omega), HA.out 1 (by omega), HA.out 2 (by omega), HA.out 3 (by omega)]; rfl
      by_cases u1 : h.user.size < 32
      · have u1' : (h.user.size : Int) < 32 := by omega
        have HD : Hid (decide ((h.group.size : Int) < 32) = decide (h.group.size < 32)) := decide_eq_decide.2 (by omega)
        go_wp2
        go_quiet (first | (go_at_call 19; with_reducible exact Calls.quiet_of (h10 _)) | (go_at_call 19; with_reducible exact Calls.quiet_of (h11 _)))
        go_wp2
        go_ret
        exact ⟨by rw [HV.out, decide_eq_true u1, ← HD.out]; rfl, below_drawn B0 _⟩
      · have u1' : decide ((h.user.size : Int) < 32) = false := decide_eq_false (by omega)
        go_wp2
        go_quiet (first | (go_at_call 19; with_reducible exact Calls.quiet_of (h10 _)) | (go_at_call 19; with_reducible exact Calls.quiet_of (h11 _)))
        go_wp2
        go_ret
        exact ⟨by rw [HV.out, decide_eq_false u1]; rfl, below_drawn B0 _⟩
end Go.Proofs.YtgdkgdlgalinbaaGreatDoor
