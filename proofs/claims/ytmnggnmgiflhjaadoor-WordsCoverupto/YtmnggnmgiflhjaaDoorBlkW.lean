/- The statement's blanks. -/
import Derived.Test.YtmnggnmgiflhjaaDoorStW
namespace Go.Proofs.YtmnggnmgiflhjaaDoor
open Go Go.RowKit

theorem blanks_p (s : ByteArray) (w : World) (hs : s.size ≤ 1099511627776) : Calls Tryd.prog 19 #[.string s] w fun e w' => e = .returned (.bool ((un s).all isBl)) ∧ w' = w := by
  have hsl := un_length s
  go_enter Tryd.func19, Tryd.ntmps19
  go_wp2
  go_loop [3] (fun i => ∃ k : Nat, k ≤ s.size ∧ i = .int .i64 k ∧ Hid (((un s).take k).all isBl = true)) (fun i => s.size - (intOf i).toNat)
  case atStart => exact ⟨0, Nat.zero_le _, rfl, by simp [Hid]⟩
  case round =>
    obtain ⟨k, hk, rfl, HA⟩ := hrel
    by_cases hlt : k < s.size
    · have hget := un_getElem? s k hlt
      have k0 : (0 : Int) ≤ (k : Int) := by omega
      have k1 : (k : Int) < (s.size : Int) := by omega
      have q1 : ((s[k].toNat : Int) != 32) = !decide (s[k] = 32) := by unfold bne; rw [show ((s[k].toNat : Int) == 32) = decide (s[k] = 32) from beq_u8 s[k] 32 (by decide)]
      have q2 : ((s[k].toNat : Int) != 9) = !decide (s[k] = 9) := by unfold bne; rw [show ((s[k].toNat : Int) == 9) = decide (s[k] = 9) from beq_u8 s[k] 9 (by decide)]
      have q3 : ((s[k].toNat : Int) != 13) = !decide (s[k] = 13) := by unfold bne; rw [show ((s[k].toNat : Int) == 13) = decide (s[k] = 13) from beq_u8 s[k] 13 (by decide)]
      have HB : Hid (isBl s[k] = (decide (s[k] = 32) || decide (s[k] = 9) || decide (s[k] = 13))) := rfl
      have HF : Hid (isBl s[k] = false → (un s).all isBl = false) := by
        intro hb
        rw [List.all_eq_false]
        exact ⟨s[k], List.mem_of_getElem? hget, by rw [hb]; decide⟩
      have HA2 : Hid (isBl s[k] = true → ((un s).take (k + 1)).all isBl = true) := by
        intro hb
        rw [List.take_add_one, hget, List.all_append, HA.out]; simp [hb]
      clear hget
      generalize decide (s[k] = 32) = m1 at *
      generalize decide (s[k] = 9) = m2 at *
      generalize decide (s[k] = 13) = m3 at *
      cases hm : (m1 || m2 || m3)
      · have HX : Hid ((un s).all isBl = false) := HF.out (by rw [HB.out, hm])
        obtain ⟨⟨rfl, rfl⟩, rfl⟩ : (m1 = false ∧ m2 = false) ∧ m3 = false := by revert hm; cases m1 <;> cases m2 <;> cases m3 <;> simp
        clear hm HB HF HA2
        simp only [Bool.not_false] at q1 q2 q3
        go_wp2
        go_ret
        exact ⟨by rw [HX.out]; rfl, rfl⟩
      · have HX : Hid (((un s).take (k + 1)).all isBl = true) := HA2.out (by rw [HB.out, hm])
        clear HB HF HA2
        cases m1 <;> cases m2 <;> cases m3
        all_goals first | (exfalso; revert hm; decide) | skip
        all_goals
          clear hm
          simp only [Bool.not_false, Bool.not_true] at q1 q2 q3
          go_wp2
          first
            | exact ⟨⟨k + 1, by omega, by go_num, HX⟩, by simp [intOf]; omega⟩
            | (go_round
               case rel => exact ⟨k + 1, by omega, by go_num, HX⟩
               case measure => simp [intOf]; omega)
    · obtain rfl : k = s.size := by omega
      have HX : Hid ((un s).all isBl = true) := by have := HA.out; rw [← hsl, List.take_length] at this; exact this
      go_wp2
      go_ret
      exact ⟨by rw [HX.out]; rfl, rfl⟩
end Go.Proofs.YtmnggnmgiflhjaaDoor
