/- Package ustar's sum: all bytes of a block added up, its own field as blanks. -/
import Derived.Test.YtgdkgdlgalinbaaGreatDoorBlkU
namespace Go.Proofs.YtgdkgdlgalinbaaGreatDoor
open Go Go.RowKit

/-- What the first k bytes add up to. -/
def sumTo (l : List UInt8) : Nat → Nat
  | 0 => 0
  | k + 1 => sumTo l k + if k < 148 ∨ 156 ≤ k then (l.getD k 0).toNat else 0
def sumB (l : List UInt8) : Nat := 256 + sumTo l 512
theorem sumTo_le (l : List UInt8) : ∀ k, sumTo l k ≤ 255 * k
  | 0 => Nat.le_refl _
  | k + 1 => by
    have h := sumTo_le l k
    have h2 := (l.getD k 0).toNat_lt
    unfold sumTo
    split <;> omega
theorem drewN_two (w : World) (a b : Nat) : (w.drewN a).drewN b = w.drewN (a + b) := by simp [World.drewN, Nat.add_assoc]
set_option maxRecDepth 100000 in
set_option maxHeartbeats 1000000 in
theorem sum_p (b : Nat) (cs : List UInt8) (w : World) (hc : cs.length = 512) (hL : Lies w b 59 (bcs cs)) (hb : BTab w) :
    Calls Tryz.prog 35 #[.pointer (some ⟨b, 0, none⟩)] w fun e w' => e = .returned (.int .i64 (sumB cs)) ∧ ∃ d, w' = w.drewN d := by
  have h1 := room_p 6 (by omega) w hb
  rw [show rm 6 = 8 from rfl] at h1
  have c6 : ∀ d, (w.drewN d).cell? ⟨0, 6, none⟩ = some (.int .i64 148) := fun d => hb.cell 6 (by omega)
  have c7 : ∀ d, (w.drewN d).cell? ⟨0, 7, none⟩ = some (.int .i64 156) := fun d => hb.cell 7 (by omega)
  have hcell : Hid (∀ (d k : Nat) (h : k < 512), (w.drewN d).cell? ⟨b, k, none⟩ = some (.int .u8 (cs.getD k 0).toNat)) := fun d k h => by
    rw [(hL.drew d).cell (bcs_get cs k (by omega))]
    simp [List.getD_eq_getElem?_getD, hc, h]
  clear hL hc
  go_enter Tryz.func35, Tryz.ntmps35
  go_wp2_with (go_at_call 19; refine h1.mono ?_; rintro e w' ⟨rfl, d, rfl⟩)
  clear h1
  go_loopw [3, 9] (fun s n wr => ∃ (k d : Nat), k ≤ 512 ∧ n = .int .i64 k ∧ s = .int .i64 ((256 + sumTo cs k : Nat) : Int) ∧ wr = w.drewN d) (fun _ n _ => 512 - (intOf n).toNat)
  case atStart => exact ⟨0, d, by omega, rfl, rfl, rfl⟩
  case round =>
    obtain ⟨k, d', hk, rfl, rfl, hwr⟩ := hrel
    by_cases hlt : k < 512
    · have ck := hcell.out d' k hlt
      have c6' := c6 d'
      have c7' := c7 d'
      rw [← hwr] at ck c6' c7'
      have HW : Hid (wr = w.drewN d') := hwr
      clear hwr c6 c7
      have hle := sumTo_le cs k
      have hb8 := (cs.getD k 0).toNat_lt
      have HS : Hid (sumTo cs (k + 1) = sumTo cs k + if k < 148 ∨ 156 ≤ k then (cs.getD k 0).toNat else 0) := rfl
      generalize cs.getD k 0 = x at *
      generalize sumTo cs k = S at *
      have d1 : (0 : Int) ≤ (k : Int) := by omega
      have d2 : (k : Int) < 512 := by omega
      by_cases ha : k < 148
      · have ha' : (k : Int) < 148 := by omega
        go_wp2
        go_quiet (fail)
        go_wp2
        refine ⟨⟨k + 1, _, by omega, by go_num, ?_, by rw [HW.out]; exact drewN_two _ _ _⟩, by simp [intOf]; omega⟩
        rw [HS.out, if_pos (Or.inl ha)]
        go_num
      · have ha' : ¬ (k : Int) < 148 := by omega
        by_cases hz : 156 ≤ k
        · have hz' : (156 : Int) ≤ (k : Int) := by omega
          go_wp2
          go_quiet (fail)
          go_wp2
          refine ⟨⟨k + 1, _, by omega, by go_num, ?_, by rw [HW.out]; exact drewN_two _ _ _⟩, by simp [intOf]; omega⟩
          rw [HS.out, if_pos (Or.inr hz)]
          go_num
        · have hz' : ¬ (156 : Int) ≤ (k : Int) := by omega
          go_wp2
          go_quiet (fail)
          go_wp2
          refine ⟨⟨k + 1, _, by omega, by go_num, ?_, by rw [HW.out]; exact drewN_two _ _ _⟩, by simp [intOf]; omega⟩
          rw [HS.out, if_neg (by omega)]
          go_num
    · obtain rfl : k = 512 := by omega
      have HW : Hid (wr = w.drewN d') := hwr
      clear hwr
      go_wp2
      go_ret
      exact ⟨rfl, _, HW.out⟩
end Go.Proofs.YtgdkgdlgalinbaaGreatDoor
