/- The document's letter, digit and Name. -/
import Derived.Test.YtjmekcakiacdfabGreatDoorDcX
namespace Go.Proofs.YtjmekcakiacdfabGreatDoor
open Go Go.RowKit

def dgB (b : UInt8) : Bool := decide ((48 : Int) ≤ b.toNat) && decide ((b.toNat : Int) ≤ 57)
theorem nmB_two (b : UInt8) (f : Bool) : nmB b f = (nmB b true || (!f && dgB b)) := by
  rw [nmB_int, nmB_int, dgB]
  cases f <;> simp
set_option maxHeartbeats 4000000 in
theorem letter_r (b : UInt8) (w : World) : Calls Tryz.prog 81 #[.int .u8 b.toNat] w fun e w' => e = .returned (.bool (nmB b true)) ∧ w' = w := by
  have HP : Hid _ := nmB_int b true
  generalize nmB b true = r at *
  have hcases : ((b.toNat : Int) ≤ 64) ∨ ((65 : Int) ≤ b.toNat ∧ (b.toNat : Int) ≤ 90) ∨ ((91 : Int) ≤ b.toNat ∧ (b.toNat : Int) ≤ 94) ∨ ((95 : Int) ≤ b.toNat ∧ (b.toNat : Int) ≤ 95) ∨ ((96 : Int) ≤ b.toNat ∧ (b.toNat : Int) ≤ 96) ∨ ((97 : Int) ≤ b.toNat ∧ (b.toNat : Int) ≤ 122) ∨ (123 : Int) ≤ b.toNat := by omega
  rcases hcases with h | ⟨h, h'⟩ | ⟨h, h'⟩ | ⟨h, h'⟩ | ⟨h, h'⟩ | ⟨h, h'⟩ | h
  all_goals first | have c1 : (65 : Int) ≤ b.toNat := by omega | have c1 : ¬ (65 : Int) ≤ b.toNat := by omega
  all_goals first | have c2 : (b.toNat : Int) ≤ 90 := by omega | have c2 : ¬ (b.toNat : Int) ≤ 90 := by omega
  all_goals first | have c3 : (97 : Int) ≤ b.toNat := by omega | have c3 : ¬ (97 : Int) ≤ b.toNat := by omega
  all_goals first | have c4 : (b.toNat : Int) ≤ 122 := by omega | have c4 : ¬ (b.toNat : Int) ≤ 122 := by omega
  all_goals first | have c7 : (b.toNat : Int) = 95 := by omega | have c7 : ¬ (b.toNat : Int) = 95 := by omega
  all_goals first | have c8 : ((b.toNat : Int) == 95) = true := by simp; omega | have c8 : ((b.toNat : Int) == 95) = false := by simp; omega
  all_goals
    have HR := HP.out
    simp only [c1, c2, c3, c4, c7, decide_true, decide_false, Bool.not_true, Bool.false_and, Bool.and_true, Bool.and_false, Bool.or_true, Bool.or_false, Bool.and_self, Bool.or_self] at HR
    subst HR
    clear HP c7
    go_enter Tryz.func81, Tryz.ntmps81
    go_wp2
    go_ret
    exact ⟨rfl, rfl⟩
set_option maxHeartbeats 4000000 in
theorem digit_r (b : UInt8) (w : World) : Calls Tryz.prog 82 #[.int .u8 b.toNat] w fun e w' => e = .returned (.bool (dgB b)) ∧ w' = w := by
  have HP : Hid (dgB b = (decide ((48 : Int) ≤ b.toNat) && decide ((b.toNat : Int) ≤ 57))) := rfl
  generalize dgB b = r at *
  have hcases : ((b.toNat : Int) ≤ 47) ∨ ((48 : Int) ≤ b.toNat ∧ (b.toNat : Int) ≤ 57) ∨ (58 : Int) ≤ b.toNat := by omega
  rcases hcases with h | ⟨h, h'⟩ | h
  all_goals first | have c1 : (48 : Int) ≤ b.toNat := by omega | have c1 : ¬ (48 : Int) ≤ b.toNat := by omega
  all_goals first | have c2 : (b.toNat : Int) ≤ 57 := by omega | have c2 : ¬ (b.toNat : Int) ≤ 57 := by omega
  all_goals
    have HR := HP.out
    simp only [c1, c2, decide_true, decide_false, Bool.and_true, Bool.and_false, Bool.and_self] at HR
    subst HR
    clear HP
    go_enter Tryz.func82, Tryz.ntmps82
    go_wp2
    go_ret
    exact ⟨rfl, rfl⟩

set_option maxHeartbeats 4000000 in
theorem name_r (s : ByteArray) (hs : s.size ≤ 1099511627776) (w : World) : Calls Tryz.prog 71 #[.string s] w fun e w' => e = .returned (.int .i64 (nmL (un s))) ∧ w' = w := by
  have hsl := un_length s
  have hnl := nmL_le (un s)
  go_enter Tryz.func71, Tryz.ntmps71
  go_wp2
  go_loop [3] (fun i => ∃ k : Nat, k ≤ s.size ∧ i = .int .i64 k ∧ Hid (k ≤ nmL (un s))) (fun i => s.size - (intOf i).toNat)
  case atStart => exact ⟨0, Nat.zero_le _, rfl, Nat.zero_le _⟩
  case round =>
    obtain ⟨k, hk, rfl, HN⟩ := hrel
    by_cases hlt : k < s.size
    · have hget := un_getElem? s k hlt
      have hp := fun W => letter_r s[k] W
      have hq := fun W => digit_r s[k] W
      have HS0 := nm_step (un s) k _ HN.out hget
      rw [nmB_two] at HS0
      have HS : Hid _ := HS0
      clear HS0
      have k0 : (0 : Int) ≤ (k : Int) := by omega
      have k1 : (k : Int) < (s.size : Int) := by omega
      generalize nmB s[k] true = r at *
      generalize dgB s[k] = q at *
      clear hget
      have HG : Hid (k + 1 ≤ nmL (un s) ∨ nmL (un s) = k) := by
        rcases hv : (r || (!(decide (k = 0)) && q)) with _ | _
        · exact .inr (HS.out.2 hv)
        · exact .inl (HS.out.1 hv)
      by_cases hz : k = 0
      · have HS2 : Hid ((r = true → k + 1 ≤ nmL (un s)) ∧ (r = false → nmL (un s) = k)) := by
          have := HS.out
          rw [decide_eq_true hz] at this
          unfold Hid
          simpa using this
        have kz : ¬ (0 : Int) < (k : Int) := by omega
        clear HS HG hz
        cases r with
        | true =>
          go_wp2_with (go_at_call 81; refine (hp _).mono ?_; rintro e w1 ⟨rfl, hw⟩; replace hw := hw.symm; subst hw)
          first
            | exact ⟨⟨k + 1, by omega, by go_num, HS2.out.1 (by trivial)⟩, by simp [intOf]; omega⟩
            | (go_round
               case rel => exact ⟨k + 1, by omega, by go_num, HS2.out.1 (by trivial)⟩
               case measure => simp [intOf]; omega)
        | false =>
          have HE : Hid (nmL (un s) = k) := HS2.out.2 (by trivial)
          go_wp2_with (go_at_call 81; refine (hp _).mono ?_; rintro e w1 ⟨rfl, hw⟩; replace hw := hw.symm; subst hw)
          go_ret
          exact ⟨by rw [HE.out]; rfl, rfl⟩
      · have HS2 : Hid ((r = true → k + 1 ≤ nmL (un s)) ∧ (r = false → q = true → k + 1 ≤ nmL (un s)) ∧ (r = false → q = false → nmL (un s) = k)) := by
          have := HS.out
          rw [decide_eq_false hz] at this
          refine ⟨fun h => this.1 (by simp [h]), fun h h2 => this.1 (by simp [h, h2]), fun h h2 => this.2 (by simp [h, h2])⟩
        have kz : (0 : Int) < (k : Int) := by omega
        clear HS HG hz
        cases r with
        | true =>
          go_wp2_with (go_at_call 81; refine (hp _).mono ?_; rintro e w1 ⟨rfl, hw⟩; replace hw := hw.symm; subst hw)
          first
            | exact ⟨⟨k + 1, by omega, by go_num, HS2.out.1 (by trivial)⟩, by simp [intOf]; omega⟩
            | (go_round
               case rel => exact ⟨k + 1, by omega, by go_num, HS2.out.1 (by trivial)⟩
               case measure => simp [intOf]; omega)
        | false =>
          cases q with
          | true =>
            go_wp2_with (first | (go_at_call 81; refine (hp _).mono ?_; rintro e w1 ⟨rfl, hw⟩; replace hw := hw.symm; subst hw) | (go_at_call 82; refine (hq _).mono ?_; rintro e w1 ⟨rfl, hw⟩; replace hw := hw.symm; subst hw))
            first
              | exact ⟨⟨k + 1, by omega, by go_num, HS2.out.2.1 (by trivial) (by trivial)⟩, by simp [intOf]; omega⟩
              | (go_round
                 case rel => exact ⟨k + 1, by omega, by go_num, HS2.out.2.1 (by trivial) (by trivial)⟩
                 case measure => simp [intOf]; omega)
          | false =>
            have HE : Hid (nmL (un s) = k) := HS2.out.2.2 (by trivial) (by trivial)
            go_wp2_with (first | (go_at_call 81; refine (hp _).mono ?_; rintro e w1 ⟨rfl, hw⟩; replace hw := hw.symm; subst hw) | (go_at_call 82; refine (hq _).mono ?_; rintro e w1 ⟨rfl, hw⟩; replace hw := hw.symm; subst hw))
            go_ret
            exact ⟨by rw [HE.out]; rfl, rfl⟩
    · obtain rfl : k = s.size := by omega
      have HE : Hid (nmL (un s) = s.size) := by have := HN.out; unfold Hid; omega
      clear HN
      go_wp2
      go_ret
      exact ⟨by rw [HE.out]; rfl, rfl⟩
end Go.Proofs.YtjmekcakiacdfabGreatDoor
